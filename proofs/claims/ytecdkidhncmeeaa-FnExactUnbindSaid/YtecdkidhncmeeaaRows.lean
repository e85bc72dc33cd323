/-
  No cell of these rows narrows 'for every input' (looked for: loops, veiled, ifaces, maps, wideKeys, modest, calm, conditions, laid).
  DERIVED. THE GIVEN ROWS OF THIS SEAT. 12 by the template 'for every input the law returns true; each argument reads behind the call as it read before'; 0 by the template 'total and deterministic' (their statements: YtecdkidhncmeeaaTotals.lean).
  GIVEN WITH THE SEED: the statements are not yours to turn. If you find one false, say at which input.
  Laid BY PROGRAM, IN A SANDBOX (cutbox-rows.mjs): the forced cells as the released guide's own fill.sh prints them over the translation 6f24e876af8c4c90… (all of the seat's roots in one cut). By AI agents, Wed Nov 11 2026. No macro, syntax, notation, axiom, sorry.
-/
import Derived.Test.YtecdkidhncmeeaaChecked
import GoSem.Claim
import GoSem.ClaimJoined
import GoSem.ClaimMapViews
import Derived.JoinedTies
import Derived.KernelRfl
namespace Go.Proofs.Ytecdkidhncmeeaa
/- THE CELL 'sum', in the pinned program and in every row, IS THE sha256 OF THE DUMP (.gsa) THAT YtecdkidhncmeeaaProg.lean LOADS. Nothing in Lean hashes anything: it is a label: what it is worth is what the hold of that sum in a sandbox is worth. -/
noncomputable def Try.pinned : Pinned := { name := "ytecdkidhncmeeaa", sum := "6f24e876af8c4c90f2ff752aad8615597b49b56fb79aeefb554b3de9828f8acf", checked := Try.checked }
namespace Rows
def none {H : Type} : Left H := { results := [], args := [] }

/-- 'laws.FnQueue': WHATEVER THE INPUT: true; the input reads as it did. -/
def fnQueueSpec : ChangeSpec := { name := "fnQueue", fn := fun _ => fun
  | [d] => { results := [.lit (.bool true)], args := [d] }
  | _ => none }
def fnQueueRow : OpenClaim := { program := "ytecdkidhncmeeaa", sum := "6f24e876af8c4c90f2ff752aad8615597b49b56fb79aeefb554b3de9828f8acf", func := "loop.example/g00227/laws.FnQueue", spec := "fnQueue", inPlace := ["slices.overlaps[loop.example/g00227/impl.Held]"], unfollowed := true, recurses := true, apart := false }
def FnQueueSaid : Prop := fnQueueRow.holds Try.pinned (OpenSpec.ofChange fnQueueSpec)

/-- ITS FALSE NEIGHBOUR: 'it returns false'. Refute it at one input. -/
def fnQueueWrong : ChangeSpec := { name := "fnQueue", fn := fun _ => fun
  | [d] => { results := [.lit (.bool false)], args := [d] }
  | _ => none }
def FnQueueWrongFalsely : Prop := fnQueueRow.holds Try.pinned (OpenSpec.ofChange fnQueueWrong)

/-- 'laws.FnExactKeyOk': WHATEVER THE INPUT: true; the input reads as it did. -/
def fnExactKeyOkSpec : ChangeSpec := { name := "fnExactKeyOk", fn := fun _ => fun
  | [d] => { results := [.lit (.bool true)], args := [d] }
  | _ => none }
def fnExactKeyOkRow : OpenClaim := { program := "ytecdkidhncmeeaa", sum := "6f24e876af8c4c90f2ff752aad8615597b49b56fb79aeefb554b3de9828f8acf", func := "loop.example/g00227/laws.FnExactKeyOk", spec := "fnExactKeyOk", apart := false }
def FnExactKeyOkSaid : Prop := fnExactKeyOkRow.holds Try.pinned (OpenSpec.ofChange fnExactKeyOkSpec)

/-- ITS FALSE NEIGHBOUR: 'it returns false'. Refute it at one input. -/
def fnExactKeyOkWrong : ChangeSpec := { name := "fnExactKeyOk", fn := fun _ => fun
  | [d] => { results := [.lit (.bool false)], args := [d] }
  | _ => none }
def FnExactKeyOkWrongFalsely : Prop := fnExactKeyOkRow.holds Try.pinned (OpenSpec.ofChange fnExactKeyOkWrong)

/-- 'laws.FnExactRoutesOk': WHATEVER THE INPUT: true; the input reads as it did. -/
def fnExactRoutesOkSpec : ChangeSpec := { name := "fnExactRoutesOk", fn := fun _ => fun
  | [d] => { results := [.lit (.bool true)], args := [d] }
  | _ => none }
def fnExactRoutesOkRow : OpenClaim := { program := "ytecdkidhncmeeaa", sum := "6f24e876af8c4c90f2ff752aad8615597b49b56fb79aeefb554b3de9828f8acf", func := "loop.example/g00227/laws.FnExactRoutesOk", spec := "fnExactRoutesOk", unfollowed := true, recurses := true, apart := false }
def FnExactRoutesOkSaid : Prop := fnExactRoutesOkRow.holds Try.pinned (OpenSpec.ofChange fnExactRoutesOkSpec)

/-- ITS FALSE NEIGHBOUR: 'it returns false'. Refute it at one input. -/
def fnExactRoutesOkWrong : ChangeSpec := { name := "fnExactRoutesOk", fn := fun _ => fun
  | [d] => { results := [.lit (.bool false)], args := [d] }
  | _ => none }
def FnExactRoutesOkWrongFalsely : Prop := fnExactRoutesOkRow.holds Try.pinned (OpenSpec.ofChange fnExactRoutesOkWrong)

/-- 'laws.FnExactDeclare': WHATEVER THE INPUT: true; the input reads as it did. -/
def fnExactDeclareSpec : ChangeSpec := { name := "fnExactDeclare", fn := fun _ => fun
  | [d1, d2, d3] => { results := [.lit (.bool true)], args := [d1, d2, d3] }
  | _ => none }
def fnExactDeclareRow : OpenClaim := { program := "ytecdkidhncmeeaa", sum := "6f24e876af8c4c90f2ff752aad8615597b49b56fb79aeefb554b3de9828f8acf", func := "loop.example/g00227/laws.FnExactDeclare", spec := "fnExactDeclare", inPlace := ["slices.overlaps[loop.example/g00227/impl.Exchange]"], unfollowed := true, recurses := true, apart := false }
def FnExactDeclareSaid : Prop := fnExactDeclareRow.holds Try.pinned (OpenSpec.ofChange fnExactDeclareSpec)

/-- ITS FALSE NEIGHBOUR: 'it returns false'. Refute it at one input. -/
def fnExactDeclareWrong : ChangeSpec := { name := "fnExactDeclare", fn := fun _ => fun
  | [d1, d2, d3] => { results := [.lit (.bool false)], args := [d1, d2, d3] }
  | _ => none }
def FnExactDeclareWrongFalsely : Prop := fnExactDeclareRow.holds Try.pinned (OpenSpec.ofChange fnExactDeclareWrong)

/-- 'laws.FnExactBind': WHATEVER THE INPUT: true; the input reads as it did. -/
def fnExactBindSpec : ChangeSpec := { name := "fnExactBind", fn := fun _ => fun
  | [d1, d2, d3, d4] => { results := [.lit (.bool true)], args := [d1, d2, d3, d4] }
  | _ => none }
def fnExactBindRow : OpenClaim := { program := "ytecdkidhncmeeaa", sum := "6f24e876af8c4c90f2ff752aad8615597b49b56fb79aeefb554b3de9828f8acf", func := "loop.example/g00227/laws.FnExactBind", spec := "fnExactBind", inPlace := ["slices.overlaps[loop.example/g00227/impl.Binding]"], unfollowed := true, recurses := true, apart := false }
def FnExactBindSaid : Prop := fnExactBindRow.holds Try.pinned (OpenSpec.ofChange fnExactBindSpec)

/-- ITS FALSE NEIGHBOUR: 'it returns false'. Refute it at one input. -/
def fnExactBindWrong : ChangeSpec := { name := "fnExactBind", fn := fun _ => fun
  | [d1, d2, d3, d4] => { results := [.lit (.bool false)], args := [d1, d2, d3, d4] }
  | _ => none }
def FnExactBindWrongFalsely : Prop := fnExactBindRow.holds Try.pinned (OpenSpec.ofChange fnExactBindWrong)

/-- 'laws.FnExactUnbind': WHATEVER THE INPUT: true; the input reads as it did. -/
def fnExactUnbindSpec : ChangeSpec := { name := "fnExactUnbind", fn := fun _ => fun
  | [d1, d2] => { results := [.lit (.bool true)], args := [d1, d2] }
  | _ => none }
def fnExactUnbindRow : OpenClaim := { program := "ytecdkidhncmeeaa", sum := "6f24e876af8c4c90f2ff752aad8615597b49b56fb79aeefb554b3de9828f8acf", func := "loop.example/g00227/laws.FnExactUnbind", spec := "fnExactUnbind", unfollowed := true, recurses := true, apart := false }
def FnExactUnbindSaid : Prop := fnExactUnbindRow.holds Try.pinned (OpenSpec.ofChange fnExactUnbindSpec)

/-- ITS FALSE NEIGHBOUR: 'it returns false'. Refute it at one input. -/
def fnExactUnbindWrong : ChangeSpec := { name := "fnExactUnbind", fn := fun _ => fun
  | [d1, d2] => { results := [.lit (.bool false)], args := [d1, d2] }
  | _ => none }
def FnExactUnbindWrongFalsely : Prop := fnExactUnbindRow.holds Try.pinned (OpenSpec.ofChange fnExactUnbindWrong)

/-- 'laws.FnExactQueueOk': WHATEVER THE INPUT: true; the input reads as it did. -/
def fnExactQueueOkSpec : ChangeSpec := { name := "fnExactQueueOk", fn := fun _ => fun
  | [d] => { results := [.lit (.bool true)], args := [d] }
  | _ => none }
def fnExactQueueOkRow : OpenClaim := { program := "ytecdkidhncmeeaa", sum := "6f24e876af8c4c90f2ff752aad8615597b49b56fb79aeefb554b3de9828f8acf", func := "loop.example/g00227/laws.FnExactQueueOk", spec := "fnExactQueueOk", unfollowed := true, recurses := true, apart := false }
def FnExactQueueOkSaid : Prop := fnExactQueueOkRow.holds Try.pinned (OpenSpec.ofChange fnExactQueueOkSpec)

/-- ITS FALSE NEIGHBOUR: 'it returns false'. Refute it at one input. -/
def fnExactQueueOkWrong : ChangeSpec := { name := "fnExactQueueOk", fn := fun _ => fun
  | [d] => { results := [.lit (.bool false)], args := [d] }
  | _ => none }
def FnExactQueueOkWrongFalsely : Prop := fnExactQueueOkRow.holds Try.pinned (OpenSpec.ofChange fnExactQueueOkWrong)

/-- 'laws.FnExactPush': WHATEVER THE INPUT: true; the input reads as it did. -/
def fnExactPushSpec : ChangeSpec := { name := "fnExactPush", fn := fun _ => fun
  | [d1, d2, d3, d4] => { results := [.lit (.bool true)], args := [d1, d2, d3, d4] }
  | _ => none }
def fnExactPushRow : OpenClaim := { program := "ytecdkidhncmeeaa", sum := "6f24e876af8c4c90f2ff752aad8615597b49b56fb79aeefb554b3de9828f8acf", func := "loop.example/g00227/laws.FnExactPush", spec := "fnExactPush", unfollowed := true, recurses := true, apart := false }
def FnExactPushSaid : Prop := fnExactPushRow.holds Try.pinned (OpenSpec.ofChange fnExactPushSpec)

/-- ITS FALSE NEIGHBOUR: 'it returns false'. Refute it at one input. -/
def fnExactPushWrong : ChangeSpec := { name := "fnExactPush", fn := fun _ => fun
  | [d1, d2, d3, d4] => { results := [.lit (.bool false)], args := [d1, d2, d3, d4] }
  | _ => none }
def FnExactPushWrongFalsely : Prop := fnExactPushRow.holds Try.pinned (OpenSpec.ofChange fnExactPushWrong)

/-- 'laws.FnExactPop': WHATEVER THE INPUT: true; the input reads as it did. -/
def fnExactPopSpec : ChangeSpec := { name := "fnExactPop", fn := fun _ => fun
  | [d1, d2, d3] => { results := [.lit (.bool true)], args := [d1, d2, d3] }
  | _ => none }
def fnExactPopRow : OpenClaim := { program := "ytecdkidhncmeeaa", sum := "6f24e876af8c4c90f2ff752aad8615597b49b56fb79aeefb554b3de9828f8acf", func := "loop.example/g00227/laws.FnExactPop", spec := "fnExactPop", inPlace := ["slices.overlaps[loop.example/g00227/impl.Held]"], unfollowed := true, recurses := true, apart := false }
def FnExactPopSaid : Prop := fnExactPopRow.holds Try.pinned (OpenSpec.ofChange fnExactPopSpec)

/-- ITS FALSE NEIGHBOUR: 'it returns false'. Refute it at one input. -/
def fnExactPopWrong : ChangeSpec := { name := "fnExactPop", fn := fun _ => fun
  | [d1, d2, d3] => { results := [.lit (.bool false)], args := [d1, d2, d3] }
  | _ => none }
def FnExactPopWrongFalsely : Prop := fnExactPopRow.holds Try.pinned (OpenSpec.ofChange fnExactPopWrong)

/-- 'laws.FnExactDrop': WHATEVER THE INPUT: true; the input reads as it did. -/
def fnExactDropSpec : ChangeSpec := { name := "fnExactDrop", fn := fun _ => fun
  | [d1, d2, d3, d4] => { results := [.lit (.bool true)], args := [d1, d2, d3, d4] }
  | _ => none }
def fnExactDropRow : OpenClaim := { program := "ytecdkidhncmeeaa", sum := "6f24e876af8c4c90f2ff752aad8615597b49b56fb79aeefb554b3de9828f8acf", func := "loop.example/g00227/laws.FnExactDrop", spec := "fnExactDrop", unfollowed := true, recurses := true, apart := false }
def FnExactDropSaid : Prop := fnExactDropRow.holds Try.pinned (OpenSpec.ofChange fnExactDropSpec)

/-- ITS FALSE NEIGHBOUR: 'it returns false'. Refute it at one input. -/
def fnExactDropWrong : ChangeSpec := { name := "fnExactDrop", fn := fun _ => fun
  | [d1, d2, d3, d4] => { results := [.lit (.bool false)], args := [d1, d2, d3, d4] }
  | _ => none }
def FnExactDropWrongFalsely : Prop := fnExactDropRow.holds Try.pinned (OpenSpec.ofChange fnExactDropWrong)

/-- 'laws.FnExactReturn': WHATEVER THE INPUT: true; the input reads as it did. -/
def fnExactReturnSpec : ChangeSpec := { name := "fnExactReturn", fn := fun _ => fun
  | [d1, d2, d3, d4] => { results := [.lit (.bool true)], args := [d1, d2, d3, d4] }
  | _ => none }
def fnExactReturnRow : OpenClaim := { program := "ytecdkidhncmeeaa", sum := "6f24e876af8c4c90f2ff752aad8615597b49b56fb79aeefb554b3de9828f8acf", func := "loop.example/g00227/laws.FnExactReturn", spec := "fnExactReturn", unfollowed := true, recurses := true, apart := false }
def FnExactReturnSaid : Prop := fnExactReturnRow.holds Try.pinned (OpenSpec.ofChange fnExactReturnSpec)

/-- ITS FALSE NEIGHBOUR: 'it returns false'. Refute it at one input. -/
def fnExactReturnWrong : ChangeSpec := { name := "fnExactReturn", fn := fun _ => fun
  | [d1, d2, d3, d4] => { results := [.lit (.bool false)], args := [d1, d2, d3, d4] }
  | _ => none }
def FnExactReturnWrongFalsely : Prop := fnExactReturnRow.holds Try.pinned (OpenSpec.ofChange fnExactReturnWrong)

/-- 'laws.FnExactDepth': WHATEVER THE INPUT: true; the input reads as it did. -/
def fnExactDepthSpec : ChangeSpec := { name := "fnExactDepth", fn := fun _ => fun
  | [d] => { results := [.lit (.bool true)], args := [d] }
  | _ => none }
def fnExactDepthRow : OpenClaim := { program := "ytecdkidhncmeeaa", sum := "6f24e876af8c4c90f2ff752aad8615597b49b56fb79aeefb554b3de9828f8acf", func := "loop.example/g00227/laws.FnExactDepth", spec := "fnExactDepth", apart := false }
def FnExactDepthSaid : Prop := fnExactDepthRow.holds Try.pinned (OpenSpec.ofChange fnExactDepthSpec)

/-- ITS FALSE NEIGHBOUR: 'it returns false'. Refute it at one input. -/
def fnExactDepthWrong : ChangeSpec := { name := "fnExactDepth", fn := fun _ => fun
  | [d] => { results := [.lit (.bool false)], args := [d] }
  | _ => none }
def FnExactDepthWrongFalsely : Prop := fnExactDepthRow.holds Try.pinned (OpenSpec.ofChange fnExactDepthWrong)

/- THE SECOND FORM. 'bulk': how many values and letters a reading holds, each counted each time it is reached (what is shared counts as often as it is met; a slice's spare places count too). A statement '..UptoSaid' is the law's where the arguments, and the package variables that the reading takes, are together of bulk at most 1048576: NARROWER than '..Said'. Prove '..Said' where nothing that the law and all that it calls make is longer than what came in: it says more and counts as full. Else prove '..UptoSaid'. A law counts once. -/
mutual
def uptoBulk {H : Type} : DataW H → Nat
  | .lit (.string bytes) => bytes.length + 1
  | .lit _ => 1
  | .nil => 1
  | .ptr d => uptoBulk d + 1
  | .slice elems spare => uptoBulkAll elems + uptoBulkAll spare + 1
  | .agg parts => uptoBulkAll parts + 1
  | .iface _ d => uptoBulk d + 1
  | .map entries => uptoBulkEntries entries + 1
  | .held _ => 1
def uptoBulkAll {H : Type} : List (DataW H) → Nat
  | [] => 0
  | d :: r => uptoBulk d + uptoBulkAll r
def uptoBulkEntries {H : Type} : List (Lit × DataW H) → Nat
  | [] => 0
  | x :: r => uptoBulkEntry x + uptoBulkEntries r
def uptoBulkEntry {H : Type} : Lit × DataW H → Nat
  | (.string bytes, d) => bytes.length + uptoBulk d + 1
  | (_, d) => uptoBulk d + 1
 end
def uptoSmall : (H : Type) → List (DataW H) → Bool := fun _ ds => decide (uptoBulkAll ds ≤ 1048576)
def OpenSpec.upto (s : _root_.Go.ChangeSpec) : _root_.Go.OpenSpec := { _root_.Go.OpenSpec.ofChange s with cond := some uptoSmall }

/-- 'laws.FnQueue', WHERE WHAT IT READS IS OF BULK AT MOST 1048576: true; the input reads as it did. -/
def fnQueueUptoRow : OpenClaim := { program := "ytecdkidhncmeeaa", sum := "6f24e876af8c4c90f2ff752aad8615597b49b56fb79aeefb554b3de9828f8acf", func := "loop.example/g00227/laws.FnQueue", spec := "fnQueue", inPlace := ["slices.overlaps[loop.example/g00227/impl.Held]"], unfollowed := true, recurses := true, apart := false, narrowed := true }
def FnQueueUptoSaid : Prop := fnQueueUptoRow.holds Try.pinned (OpenSpec.upto fnQueueSpec)

/-- 'laws.FnExactKeyOk', WHERE WHAT IT READS IS OF BULK AT MOST 1048576: true; the input reads as it did. -/
def fnExactKeyOkUptoRow : OpenClaim := { program := "ytecdkidhncmeeaa", sum := "6f24e876af8c4c90f2ff752aad8615597b49b56fb79aeefb554b3de9828f8acf", func := "loop.example/g00227/laws.FnExactKeyOk", spec := "fnExactKeyOk", apart := false, narrowed := true }
def FnExactKeyOkUptoSaid : Prop := fnExactKeyOkUptoRow.holds Try.pinned (OpenSpec.upto fnExactKeyOkSpec)

/-- 'laws.FnExactRoutesOk', WHERE WHAT IT READS IS OF BULK AT MOST 1048576: true; the input reads as it did. -/
def fnExactRoutesOkUptoRow : OpenClaim := { program := "ytecdkidhncmeeaa", sum := "6f24e876af8c4c90f2ff752aad8615597b49b56fb79aeefb554b3de9828f8acf", func := "loop.example/g00227/laws.FnExactRoutesOk", spec := "fnExactRoutesOk", unfollowed := true, recurses := true, apart := false, narrowed := true }
def FnExactRoutesOkUptoSaid : Prop := fnExactRoutesOkUptoRow.holds Try.pinned (OpenSpec.upto fnExactRoutesOkSpec)

/-- 'laws.FnExactDeclare', WHERE WHAT IT READS IS OF BULK AT MOST 1048576: true; the input reads as it did. -/
def fnExactDeclareUptoRow : OpenClaim := { program := "ytecdkidhncmeeaa", sum := "6f24e876af8c4c90f2ff752aad8615597b49b56fb79aeefb554b3de9828f8acf", func := "loop.example/g00227/laws.FnExactDeclare", spec := "fnExactDeclare", inPlace := ["slices.overlaps[loop.example/g00227/impl.Exchange]"], unfollowed := true, recurses := true, apart := false, narrowed := true }
def FnExactDeclareUptoSaid : Prop := fnExactDeclareUptoRow.holds Try.pinned (OpenSpec.upto fnExactDeclareSpec)

/-- 'laws.FnExactBind', WHERE WHAT IT READS IS OF BULK AT MOST 1048576: true; the input reads as it did. -/
def fnExactBindUptoRow : OpenClaim := { program := "ytecdkidhncmeeaa", sum := "6f24e876af8c4c90f2ff752aad8615597b49b56fb79aeefb554b3de9828f8acf", func := "loop.example/g00227/laws.FnExactBind", spec := "fnExactBind", inPlace := ["slices.overlaps[loop.example/g00227/impl.Binding]"], unfollowed := true, recurses := true, apart := false, narrowed := true }
def FnExactBindUptoSaid : Prop := fnExactBindUptoRow.holds Try.pinned (OpenSpec.upto fnExactBindSpec)

/-- 'laws.FnExactUnbind', WHERE WHAT IT READS IS OF BULK AT MOST 1048576: true; the input reads as it did. -/
def fnExactUnbindUptoRow : OpenClaim := { program := "ytecdkidhncmeeaa", sum := "6f24e876af8c4c90f2ff752aad8615597b49b56fb79aeefb554b3de9828f8acf", func := "loop.example/g00227/laws.FnExactUnbind", spec := "fnExactUnbind", unfollowed := true, recurses := true, apart := false, narrowed := true }
def FnExactUnbindUptoSaid : Prop := fnExactUnbindUptoRow.holds Try.pinned (OpenSpec.upto fnExactUnbindSpec)

/-- 'laws.FnExactQueueOk', WHERE WHAT IT READS IS OF BULK AT MOST 1048576: true; the input reads as it did. -/
def fnExactQueueOkUptoRow : OpenClaim := { program := "ytecdkidhncmeeaa", sum := "6f24e876af8c4c90f2ff752aad8615597b49b56fb79aeefb554b3de9828f8acf", func := "loop.example/g00227/laws.FnExactQueueOk", spec := "fnExactQueueOk", unfollowed := true, recurses := true, apart := false, narrowed := true }
def FnExactQueueOkUptoSaid : Prop := fnExactQueueOkUptoRow.holds Try.pinned (OpenSpec.upto fnExactQueueOkSpec)

/-- 'laws.FnExactPush', WHERE WHAT IT READS IS OF BULK AT MOST 1048576: true; the input reads as it did. -/
def fnExactPushUptoRow : OpenClaim := { program := "ytecdkidhncmeeaa", sum := "6f24e876af8c4c90f2ff752aad8615597b49b56fb79aeefb554b3de9828f8acf", func := "loop.example/g00227/laws.FnExactPush", spec := "fnExactPush", unfollowed := true, recurses := true, apart := false, narrowed := true }
def FnExactPushUptoSaid : Prop := fnExactPushUptoRow.holds Try.pinned (OpenSpec.upto fnExactPushSpec)

/-- 'laws.FnExactPop', WHERE WHAT IT READS IS OF BULK AT MOST 1048576: true; the input reads as it did. -/
def fnExactPopUptoRow : OpenClaim := { program := "ytecdkidhncmeeaa", sum := "6f24e876af8c4c90f2ff752aad8615597b49b56fb79aeefb554b3de9828f8acf", func := "loop.example/g00227/laws.FnExactPop", spec := "fnExactPop", inPlace := ["slices.overlaps[loop.example/g00227/impl.Held]"], unfollowed := true, recurses := true, apart := false, narrowed := true }
def FnExactPopUptoSaid : Prop := fnExactPopUptoRow.holds Try.pinned (OpenSpec.upto fnExactPopSpec)

/-- 'laws.FnExactDrop', WHERE WHAT IT READS IS OF BULK AT MOST 1048576: true; the input reads as it did. -/
def fnExactDropUptoRow : OpenClaim := { program := "ytecdkidhncmeeaa", sum := "6f24e876af8c4c90f2ff752aad8615597b49b56fb79aeefb554b3de9828f8acf", func := "loop.example/g00227/laws.FnExactDrop", spec := "fnExactDrop", unfollowed := true, recurses := true, apart := false, narrowed := true }
def FnExactDropUptoSaid : Prop := fnExactDropUptoRow.holds Try.pinned (OpenSpec.upto fnExactDropSpec)

/-- 'laws.FnExactReturn', WHERE WHAT IT READS IS OF BULK AT MOST 1048576: true; the input reads as it did. -/
def fnExactReturnUptoRow : OpenClaim := { program := "ytecdkidhncmeeaa", sum := "6f24e876af8c4c90f2ff752aad8615597b49b56fb79aeefb554b3de9828f8acf", func := "loop.example/g00227/laws.FnExactReturn", spec := "fnExactReturn", unfollowed := true, recurses := true, apart := false, narrowed := true }
def FnExactReturnUptoSaid : Prop := fnExactReturnUptoRow.holds Try.pinned (OpenSpec.upto fnExactReturnSpec)

/-- 'laws.FnExactDepth', WHERE WHAT IT READS IS OF BULK AT MOST 1048576: true; the input reads as it did. -/
def fnExactDepthUptoRow : OpenClaim := { program := "ytecdkidhncmeeaa", sum := "6f24e876af8c4c90f2ff752aad8615597b49b56fb79aeefb554b3de9828f8acf", func := "loop.example/g00227/laws.FnExactDepth", spec := "fnExactDepth", apart := false, narrowed := true }
def FnExactDepthUptoSaid : Prop := fnExactDepthUptoRow.holds Try.pinned (OpenSpec.upto fnExactDepthSpec)

end Rows
end Go.Proofs.Ytecdkidhncmeeaa
