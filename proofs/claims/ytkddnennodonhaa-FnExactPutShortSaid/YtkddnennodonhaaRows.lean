/-
  No cell of these rows narrows 'for every input' (looked for: loops, veiled, ifaces, maps, wideKeys, modest, calm, conditions, laid).
  DERIVED. THE GIVEN ROWS OF THIS SEAT. 14 by the template 'for every input the law returns true; each argument reads behind the call as it read before'; 0 by the template 'total and deterministic' (their statements: YtkddnennodonhaaTotals.lean).
  GIVEN WITH THE SEED: the statements are not yours to turn. If you find one false, say at which input.
  Laid BY PROGRAM, IN A SANDBOX (cutbox-rows.mjs): the forced cells as the released guide's own fill.sh prints them over the translation bf07cf800cbb1e0f… (all of the seat's roots in one cut). By AI agents, Wed Nov 11 2026. No macro, syntax, notation, axiom, sorry.
-/
import Derived.Test.YtkddnennodonhaaChecked
import GoSem.Claim
import GoSem.ClaimJoined
import GoSem.ClaimMapViews
import Derived.JoinedTies
import Derived.KernelRfl
namespace Go.Proofs.Ytkddnennodonhaa
/- THE CELL 'sum', in the pinned program and in every row, IS THE sha256 OF THE DUMP (.gsa) THAT YtkddnennodonhaaProg.lean LOADS. Nothing in Lean hashes anything: it is a label: what it is worth is what the hold of that sum in a sandbox is worth. -/
noncomputable def Try.pinned : Pinned := { name := "ytkddnennodonhaa", sum := "bf07cf800cbb1e0fdde1f6051547194e56e7c156227223942383e2e3ba405de9", checked := Try.checked }
namespace Rows
def none {H : Type} : Left H := { results := [], args := [] }

/-- 'laws.FnFrames': WHATEVER THE INPUT: true; the input reads as it did. -/
def fnFramesSpec : ChangeSpec := { name := "fnFrames", fn := fun _ => fun
  | [d] => { results := [.lit (.bool true)], args := [d] }
  | _ => none }
def fnFramesRow : OpenClaim := { program := "ytkddnennodonhaa", sum := "bf07cf800cbb1e0fdde1f6051547194e56e7c156227223942383e2e3ba405de9", func := "loop.example/g00227/laws.FnFrames", spec := "fnFrames", unfollowed := true, recurses := true, apart := false }
def FnFramesSaid : Prop := fnFramesRow.holds Try.pinned (OpenSpec.ofChange fnFramesSpec)

/-- ITS FALSE NEIGHBOUR: 'it returns false'. Refute it at one input. -/
def fnFramesWrong : ChangeSpec := { name := "fnFrames", fn := fun _ => fun
  | [d] => { results := [.lit (.bool false)], args := [d] }
  | _ => none }
def FnFramesWrongFalsely : Prop := fnFramesRow.holds Try.pinned (OpenSpec.ofChange fnFramesWrong)

/-- 'laws.FnCut': WHATEVER THE INPUT: true; the input reads as it did. -/
def fnCutSpec : ChangeSpec := { name := "fnCut", fn := fun _ => fun
  | [d] => { results := [.lit (.bool true)], args := [d] }
  | _ => none }
def fnCutRow : OpenClaim := { program := "ytkddnennodonhaa", sum := "bf07cf800cbb1e0fdde1f6051547194e56e7c156227223942383e2e3ba405de9", func := "loop.example/g00227/laws.FnCut", spec := "fnCut", inPlace := ["internal/abi.NoEscape"], apart := false }
def FnCutSaid : Prop := fnCutRow.holds Try.pinned (OpenSpec.ofChange fnCutSpec)

/-- ITS FALSE NEIGHBOUR: 'it returns false'. Refute it at one input. -/
def fnCutWrong : ChangeSpec := { name := "fnCut", fn := fun _ => fun
  | [d] => { results := [.lit (.bool false)], args := [d] }
  | _ => none }
def FnCutWrongFalsely : Prop := fnCutRow.holds Try.pinned (OpenSpec.ofChange fnCutWrong)

/-- 'laws.FnExactPutInt': WHATEVER THE INPUT: true; the input reads as it did. -/
def fnExactPutIntSpec : ChangeSpec := { name := "fnExactPutInt", fn := fun _ => fun
  | [d1, d2] => { results := [.lit (.bool true)], args := [d1, d2] }
  | _ => none }
def fnExactPutIntRow : OpenClaim := { program := "ytkddnennodonhaa", sum := "bf07cf800cbb1e0fdde1f6051547194e56e7c156227223942383e2e3ba405de9", func := "loop.example/g00227/laws.FnExactPutInt", spec := "fnExactPutInt", apart := false }
def FnExactPutIntSaid : Prop := fnExactPutIntRow.holds Try.pinned (OpenSpec.ofChange fnExactPutIntSpec)

/-- ITS FALSE NEIGHBOUR: 'it returns false'. Refute it at one input. -/
def fnExactPutIntWrong : ChangeSpec := { name := "fnExactPutInt", fn := fun _ => fun
  | [d1, d2] => { results := [.lit (.bool false)], args := [d1, d2] }
  | _ => none }
def FnExactPutIntWrongFalsely : Prop := fnExactPutIntRow.holds Try.pinned (OpenSpec.ofChange fnExactPutIntWrong)

/-- 'laws.FnExactGetInt': WHATEVER THE INPUT: true; the input reads as it did. -/
def fnExactGetIntSpec : ChangeSpec := { name := "fnExactGetInt", fn := fun _ => fun
  | [d1, d2, d3] => { results := [.lit (.bool true)], args := [d1, d2, d3] }
  | _ => none }
def fnExactGetIntRow : OpenClaim := { program := "ytkddnennodonhaa", sum := "bf07cf800cbb1e0fdde1f6051547194e56e7c156227223942383e2e3ba405de9", func := "loop.example/g00227/laws.FnExactGetInt", spec := "fnExactGetInt", apart := false }
def FnExactGetIntSaid : Prop := fnExactGetIntRow.holds Try.pinned (OpenSpec.ofChange fnExactGetIntSpec)

/-- ITS FALSE NEIGHBOUR: 'it returns false'. Refute it at one input. -/
def fnExactGetIntWrong : ChangeSpec := { name := "fnExactGetInt", fn := fun _ => fun
  | [d1, d2, d3] => { results := [.lit (.bool false)], args := [d1, d2, d3] }
  | _ => none }
def FnExactGetIntWrongFalsely : Prop := fnExactGetIntRow.holds Try.pinned (OpenSpec.ofChange fnExactGetIntWrong)

/-- 'laws.FnExactPutShort': WHATEVER THE INPUT: true; the input reads as it did. -/
def fnExactPutShortSpec : ChangeSpec := { name := "fnExactPutShort", fn := fun _ => fun
  | [d] => { results := [.lit (.bool true)], args := [d] }
  | _ => none }
def fnExactPutShortRow : OpenClaim := { program := "ytkddnennodonhaa", sum := "bf07cf800cbb1e0fdde1f6051547194e56e7c156227223942383e2e3ba405de9", func := "loop.example/g00227/laws.FnExactPutShort", spec := "fnExactPutShort", apart := false }
def FnExactPutShortSaid : Prop := fnExactPutShortRow.holds Try.pinned (OpenSpec.ofChange fnExactPutShortSpec)

/-- ITS FALSE NEIGHBOUR: 'it returns false'. Refute it at one input. -/
def fnExactPutShortWrong : ChangeSpec := { name := "fnExactPutShort", fn := fun _ => fun
  | [d] => { results := [.lit (.bool false)], args := [d] }
  | _ => none }
def FnExactPutShortWrongFalsely : Prop := fnExactPutShortRow.holds Try.pinned (OpenSpec.ofChange fnExactPutShortWrong)

/-- 'laws.FnExactGetShort': WHATEVER THE INPUT: true; the input reads as it did. -/
def fnExactGetShortSpec : ChangeSpec := { name := "fnExactGetShort", fn := fun _ => fun
  | [d1, d2] => { results := [.lit (.bool true)], args := [d1, d2] }
  | _ => none }
def fnExactGetShortRow : OpenClaim := { program := "ytkddnennodonhaa", sum := "bf07cf800cbb1e0fdde1f6051547194e56e7c156227223942383e2e3ba405de9", func := "loop.example/g00227/laws.FnExactGetShort", spec := "fnExactGetShort", apart := false }
def FnExactGetShortSaid : Prop := fnExactGetShortRow.holds Try.pinned (OpenSpec.ofChange fnExactGetShortSpec)

/-- ITS FALSE NEIGHBOUR: 'it returns false'. Refute it at one input. -/
def fnExactGetShortWrong : ChangeSpec := { name := "fnExactGetShort", fn := fun _ => fun
  | [d1, d2] => { results := [.lit (.bool false)], args := [d1, d2] }
  | _ => none }
def FnExactGetShortWrongFalsely : Prop := fnExactGetShortRow.holds Try.pinned (OpenSpec.ofChange fnExactGetShortWrong)

/-- 'laws.FnExactPutLong': WHATEVER THE INPUT: true; the input reads as it did. -/
def fnExactPutLongSpec : ChangeSpec := { name := "fnExactPutLong", fn := fun _ => fun
  | [d] => { results := [.lit (.bool true)], args := [d] }
  | _ => none }
def fnExactPutLongRow : OpenClaim := { program := "ytkddnennodonhaa", sum := "bf07cf800cbb1e0fdde1f6051547194e56e7c156227223942383e2e3ba405de9", func := "loop.example/g00227/laws.FnExactPutLong", spec := "fnExactPutLong", apart := false }
def FnExactPutLongSaid : Prop := fnExactPutLongRow.holds Try.pinned (OpenSpec.ofChange fnExactPutLongSpec)

/-- ITS FALSE NEIGHBOUR: 'it returns false'. Refute it at one input. -/
def fnExactPutLongWrong : ChangeSpec := { name := "fnExactPutLong", fn := fun _ => fun
  | [d] => { results := [.lit (.bool false)], args := [d] }
  | _ => none }
def FnExactPutLongWrongFalsely : Prop := fnExactPutLongRow.holds Try.pinned (OpenSpec.ofChange fnExactPutLongWrong)

/-- 'laws.FnExactGetLong': WHATEVER THE INPUT: true; the input reads as it did. -/
def fnExactGetLongSpec : ChangeSpec := { name := "fnExactGetLong", fn := fun _ => fun
  | [d1, d2] => { results := [.lit (.bool true)], args := [d1, d2] }
  | _ => none }
def fnExactGetLongRow : OpenClaim := { program := "ytkddnennodonhaa", sum := "bf07cf800cbb1e0fdde1f6051547194e56e7c156227223942383e2e3ba405de9", func := "loop.example/g00227/laws.FnExactGetLong", spec := "fnExactGetLong", apart := false }
def FnExactGetLongSaid : Prop := fnExactGetLongRow.holds Try.pinned (OpenSpec.ofChange fnExactGetLongSpec)

/-- ITS FALSE NEIGHBOUR: 'it returns false'. Refute it at one input. -/
def fnExactGetLongWrong : ChangeSpec := { name := "fnExactGetLong", fn := fun _ => fun
  | [d1, d2] => { results := [.lit (.bool false)], args := [d1, d2] }
  | _ => none }
def FnExactGetLongWrongFalsely : Prop := fnExactGetLongRow.holds Try.pinned (OpenSpec.ofChange fnExactGetLongWrong)

/-- 'laws.FnExactNameOk': WHATEVER THE INPUT: true; the input reads as it did. -/
def fnExactNameOkSpec : ChangeSpec := { name := "fnExactNameOk", fn := fun _ => fun
  | [d] => { results := [.lit (.bool true)], args := [d] }
  | _ => none }
def fnExactNameOkRow : OpenClaim := { program := "ytkddnennodonhaa", sum := "bf07cf800cbb1e0fdde1f6051547194e56e7c156227223942383e2e3ba405de9", func := "loop.example/g00227/laws.FnExactNameOk", spec := "fnExactNameOk", apart := false }
def FnExactNameOkSaid : Prop := fnExactNameOkRow.holds Try.pinned (OpenSpec.ofChange fnExactNameOkSpec)

/-- ITS FALSE NEIGHBOUR: 'it returns false'. Refute it at one input. -/
def fnExactNameOkWrong : ChangeSpec := { name := "fnExactNameOk", fn := fun _ => fun
  | [d] => { results := [.lit (.bool false)], args := [d] }
  | _ => none }
def FnExactNameOkWrongFalsely : Prop := fnExactNameOkRow.holds Try.pinned (OpenSpec.ofChange fnExactNameOkWrong)

/-- 'laws.FnExactFrameOk': WHATEVER THE INPUT: true; the input reads as it did. -/
def fnExactFrameOkSpec : ChangeSpec := { name := "fnExactFrameOk", fn := fun _ => fun
  | [d] => { results := [.lit (.bool true)], args := [d] }
  | _ => none }
def fnExactFrameOkRow : OpenClaim := { program := "ytkddnennodonhaa", sum := "bf07cf800cbb1e0fdde1f6051547194e56e7c156227223942383e2e3ba405de9", func := "loop.example/g00227/laws.FnExactFrameOk", spec := "fnExactFrameOk", apart := false }
def FnExactFrameOkSaid : Prop := fnExactFrameOkRow.holds Try.pinned (OpenSpec.ofChange fnExactFrameOkSpec)

/-- ITS FALSE NEIGHBOUR: 'it returns false'. Refute it at one input. -/
def fnExactFrameOkWrong : ChangeSpec := { name := "fnExactFrameOk", fn := fun _ => fun
  | [d] => { results := [.lit (.bool false)], args := [d] }
  | _ => none }
def FnExactFrameOkWrongFalsely : Prop := fnExactFrameOkRow.holds Try.pinned (OpenSpec.ofChange fnExactFrameOkWrong)

/-- 'laws.FnExactPutFrame': WHATEVER THE INPUT: true; the input reads as it did. -/
def fnExactPutFrameSpec : ChangeSpec := { name := "fnExactPutFrame", fn := fun _ => fun
  | [d] => { results := [.lit (.bool true)], args := [d] }
  | _ => none }
def fnExactPutFrameRow : OpenClaim := { program := "ytkddnennodonhaa", sum := "bf07cf800cbb1e0fdde1f6051547194e56e7c156227223942383e2e3ba405de9", func := "loop.example/g00227/laws.FnExactPutFrame", spec := "fnExactPutFrame", apart := false }
def FnExactPutFrameSaid : Prop := fnExactPutFrameRow.holds Try.pinned (OpenSpec.ofChange fnExactPutFrameSpec)

/-- ITS FALSE NEIGHBOUR: 'it returns false'. Refute it at one input. -/
def fnExactPutFrameWrong : ChangeSpec := { name := "fnExactPutFrame", fn := fun _ => fun
  | [d] => { results := [.lit (.bool false)], args := [d] }
  | _ => none }
def FnExactPutFrameWrongFalsely : Prop := fnExactPutFrameRow.holds Try.pinned (OpenSpec.ofChange fnExactPutFrameWrong)

/-- 'laws.FnExactNextFrame': WHATEVER THE INPUT: true; the input reads as it did. -/
def fnExactNextFrameSpec : ChangeSpec := { name := "fnExactNextFrame", fn := fun _ => fun
  | [d] => { results := [.lit (.bool true)], args := [d] }
  | _ => none }
def fnExactNextFrameRow : OpenClaim := { program := "ytkddnennodonhaa", sum := "bf07cf800cbb1e0fdde1f6051547194e56e7c156227223942383e2e3ba405de9", func := "loop.example/g00227/laws.FnExactNextFrame", spec := "fnExactNextFrame", apart := false }
def FnExactNextFrameSaid : Prop := fnExactNextFrameRow.holds Try.pinned (OpenSpec.ofChange fnExactNextFrameSpec)

/-- ITS FALSE NEIGHBOUR: 'it returns false'. Refute it at one input. -/
def fnExactNextFrameWrong : ChangeSpec := { name := "fnExactNextFrame", fn := fun _ => fun
  | [d] => { results := [.lit (.bool false)], args := [d] }
  | _ => none }
def FnExactNextFrameWrongFalsely : Prop := fnExactNextFrameRow.holds Try.pinned (OpenSpec.ofChange fnExactNextFrameWrong)

/-- 'laws.FnExactFrames': WHATEVER THE INPUT: true; the input reads as it did. -/
def fnExactFramesSpec : ChangeSpec := { name := "fnExactFrames", fn := fun _ => fun
  | [d] => { results := [.lit (.bool true)], args := [d] }
  | _ => none }
def fnExactFramesRow : OpenClaim := { program := "ytkddnennodonhaa", sum := "bf07cf800cbb1e0fdde1f6051547194e56e7c156227223942383e2e3ba405de9", func := "loop.example/g00227/laws.FnExactFrames", spec := "fnExactFrames", unfollowed := true, recurses := true, apart := false }
def FnExactFramesSaid : Prop := fnExactFramesRow.holds Try.pinned (OpenSpec.ofChange fnExactFramesSpec)

/-- ITS FALSE NEIGHBOUR: 'it returns false'. Refute it at one input. -/
def fnExactFramesWrong : ChangeSpec := { name := "fnExactFrames", fn := fun _ => fun
  | [d] => { results := [.lit (.bool false)], args := [d] }
  | _ => none }
def FnExactFramesWrongFalsely : Prop := fnExactFramesRow.holds Try.pinned (OpenSpec.ofChange fnExactFramesWrong)

/-- 'laws.FnExactCut': WHATEVER THE INPUT: true; the input reads as it did. -/
def fnExactCutSpec : ChangeSpec := { name := "fnExactCut", fn := fun _ => fun
  | [d1, d2] => { results := [.lit (.bool true)], args := [d1, d2] }
  | _ => none }
def fnExactCutRow : OpenClaim := { program := "ytkddnennodonhaa", sum := "bf07cf800cbb1e0fdde1f6051547194e56e7c156227223942383e2e3ba405de9", func := "loop.example/g00227/laws.FnExactCut", spec := "fnExactCut", inPlace := ["internal/abi.NoEscape"], apart := false }
def FnExactCutSaid : Prop := fnExactCutRow.holds Try.pinned (OpenSpec.ofChange fnExactCutSpec)

/-- ITS FALSE NEIGHBOUR: 'it returns false'. Refute it at one input. -/
def fnExactCutWrong : ChangeSpec := { name := "fnExactCut", fn := fun _ => fun
  | [d1, d2] => { results := [.lit (.bool false)], args := [d1, d2] }
  | _ => none }
def FnExactCutWrongFalsely : Prop := fnExactCutRow.holds Try.pinned (OpenSpec.ofChange fnExactCutWrong)

/- THE SECOND FORM. 'bulk': how many values and letters a reading holds, each counted each time it is reached (what is shared counts as often as it is met; a slice's spare places count too). A statement '..UptoSaid' is the law's where the arguments, and the package variables that the reading takes, are together of bulk at most 1048576: NARROWER than '..Said'. Prove '..Said' where nothing that the law and all that it calls make is longer than what came in: it says more and counts as full. Else prove '..UptoSaid'. A law counts once. -/
mutual
def uptoBulk {H : Type} : DataW H → Nat
  | .lit (.string bytes) => bytes.length + 1
  | .lit _ => 1
  | .nil => 1
  | .ptr d => uptoBulk d + 1
  | .slice elems spare => uptoBulkAll elems + uptoBulkAll spare + 1
  | .agg parts => uptoBulkAll parts + 1
  | .iface _ d => uptoBulk d + 1
  | .map entries => uptoBulkEntries entries + 1
  | .held _ => 1
def uptoBulkAll {H : Type} : List (DataW H) → Nat
  | [] => 0
  | d :: r => uptoBulk d + uptoBulkAll r
def uptoBulkEntries {H : Type} : List (Lit × DataW H) → Nat
  | [] => 0
  | x :: r => uptoBulkEntry x + uptoBulkEntries r
def uptoBulkEntry {H : Type} : Lit × DataW H → Nat
  | (.string bytes, d) => bytes.length + uptoBulk d + 1
  | (_, d) => uptoBulk d + 1
 end
def uptoSmall : (H : Type) → List (DataW H) → Bool := fun _ ds => decide (uptoBulkAll ds ≤ 1048576)
def OpenSpec.upto (s : _root_.Go.ChangeSpec) : _root_.Go.OpenSpec := { _root_.Go.OpenSpec.ofChange s with cond := some uptoSmall }

/-- 'laws.FnFrames', WHERE WHAT IT READS IS OF BULK AT MOST 1048576: true; the input reads as it did. -/
def fnFramesUptoRow : OpenClaim := { program := "ytkddnennodonhaa", sum := "bf07cf800cbb1e0fdde1f6051547194e56e7c156227223942383e2e3ba405de9", func := "loop.example/g00227/laws.FnFrames", spec := "fnFrames", unfollowed := true, recurses := true, apart := false, narrowed := true }
def FnFramesUptoSaid : Prop := fnFramesUptoRow.holds Try.pinned (OpenSpec.upto fnFramesSpec)

/-- 'laws.FnCut', WHERE WHAT IT READS IS OF BULK AT MOST 1048576: true; the input reads as it did. -/
def fnCutUptoRow : OpenClaim := { program := "ytkddnennodonhaa", sum := "bf07cf800cbb1e0fdde1f6051547194e56e7c156227223942383e2e3ba405de9", func := "loop.example/g00227/laws.FnCut", spec := "fnCut", inPlace := ["internal/abi.NoEscape"], apart := false, narrowed := true }
def FnCutUptoSaid : Prop := fnCutUptoRow.holds Try.pinned (OpenSpec.upto fnCutSpec)

/-- 'laws.FnExactPutInt', WHERE WHAT IT READS IS OF BULK AT MOST 1048576: true; the input reads as it did. -/
def fnExactPutIntUptoRow : OpenClaim := { program := "ytkddnennodonhaa", sum := "bf07cf800cbb1e0fdde1f6051547194e56e7c156227223942383e2e3ba405de9", func := "loop.example/g00227/laws.FnExactPutInt", spec := "fnExactPutInt", apart := false, narrowed := true }
def FnExactPutIntUptoSaid : Prop := fnExactPutIntUptoRow.holds Try.pinned (OpenSpec.upto fnExactPutIntSpec)

/-- 'laws.FnExactGetInt', WHERE WHAT IT READS IS OF BULK AT MOST 1048576: true; the input reads as it did. -/
def fnExactGetIntUptoRow : OpenClaim := { program := "ytkddnennodonhaa", sum := "bf07cf800cbb1e0fdde1f6051547194e56e7c156227223942383e2e3ba405de9", func := "loop.example/g00227/laws.FnExactGetInt", spec := "fnExactGetInt", apart := false, narrowed := true }
def FnExactGetIntUptoSaid : Prop := fnExactGetIntUptoRow.holds Try.pinned (OpenSpec.upto fnExactGetIntSpec)

/-- 'laws.FnExactPutShort', WHERE WHAT IT READS IS OF BULK AT MOST 1048576: true; the input reads as it did. -/
def fnExactPutShortUptoRow : OpenClaim := { program := "ytkddnennodonhaa", sum := "bf07cf800cbb1e0fdde1f6051547194e56e7c156227223942383e2e3ba405de9", func := "loop.example/g00227/laws.FnExactPutShort", spec := "fnExactPutShort", apart := false, narrowed := true }
def FnExactPutShortUptoSaid : Prop := fnExactPutShortUptoRow.holds Try.pinned (OpenSpec.upto fnExactPutShortSpec)

/-- 'laws.FnExactGetShort', WHERE WHAT IT READS IS OF BULK AT MOST 1048576: true; the input reads as it did. -/
def fnExactGetShortUptoRow : OpenClaim := { program := "ytkddnennodonhaa", sum := "bf07cf800cbb1e0fdde1f6051547194e56e7c156227223942383e2e3ba405de9", func := "loop.example/g00227/laws.FnExactGetShort", spec := "fnExactGetShort", apart := false, narrowed := true }
def FnExactGetShortUptoSaid : Prop := fnExactGetShortUptoRow.holds Try.pinned (OpenSpec.upto fnExactGetShortSpec)

/-- 'laws.FnExactPutLong', WHERE WHAT IT READS IS OF BULK AT MOST 1048576: true; the input reads as it did. -/
def fnExactPutLongUptoRow : OpenClaim := { program := "ytkddnennodonhaa", sum := "bf07cf800cbb1e0fdde1f6051547194e56e7c156227223942383e2e3ba405de9", func := "loop.example/g00227/laws.FnExactPutLong", spec := "fnExactPutLong", apart := false, narrowed := true }
def FnExactPutLongUptoSaid : Prop := fnExactPutLongUptoRow.holds Try.pinned (OpenSpec.upto fnExactPutLongSpec)

/-- 'laws.FnExactGetLong', WHERE WHAT IT READS IS OF BULK AT MOST 1048576: true; the input reads as it did. -/
def fnExactGetLongUptoRow : OpenClaim := { program := "ytkddnennodonhaa", sum := "bf07cf800cbb1e0fdde1f6051547194e56e7c156227223942383e2e3ba405de9", func := "loop.example/g00227/laws.FnExactGetLong", spec := "fnExactGetLong", apart := false, narrowed := true }
def FnExactGetLongUptoSaid : Prop := fnExactGetLongUptoRow.holds Try.pinned (OpenSpec.upto fnExactGetLongSpec)

/-- 'laws.FnExactNameOk', WHERE WHAT IT READS IS OF BULK AT MOST 1048576: true; the input reads as it did. -/
def fnExactNameOkUptoRow : OpenClaim := { program := "ytkddnennodonhaa", sum := "bf07cf800cbb1e0fdde1f6051547194e56e7c156227223942383e2e3ba405de9", func := "loop.example/g00227/laws.FnExactNameOk", spec := "fnExactNameOk", apart := false, narrowed := true }
def FnExactNameOkUptoSaid : Prop := fnExactNameOkUptoRow.holds Try.pinned (OpenSpec.upto fnExactNameOkSpec)

/-- 'laws.FnExactFrameOk', WHERE WHAT IT READS IS OF BULK AT MOST 1048576: true; the input reads as it did. -/
def fnExactFrameOkUptoRow : OpenClaim := { program := "ytkddnennodonhaa", sum := "bf07cf800cbb1e0fdde1f6051547194e56e7c156227223942383e2e3ba405de9", func := "loop.example/g00227/laws.FnExactFrameOk", spec := "fnExactFrameOk", apart := false, narrowed := true }
def FnExactFrameOkUptoSaid : Prop := fnExactFrameOkUptoRow.holds Try.pinned (OpenSpec.upto fnExactFrameOkSpec)

/-- 'laws.FnExactPutFrame', WHERE WHAT IT READS IS OF BULK AT MOST 1048576: true; the input reads as it did. -/
def fnExactPutFrameUptoRow : OpenClaim := { program := "ytkddnennodonhaa", sum := "bf07cf800cbb1e0fdde1f6051547194e56e7c156227223942383e2e3ba405de9", func := "loop.example/g00227/laws.FnExactPutFrame", spec := "fnExactPutFrame", apart := false, narrowed := true }
def FnExactPutFrameUptoSaid : Prop := fnExactPutFrameUptoRow.holds Try.pinned (OpenSpec.upto fnExactPutFrameSpec)

/-- 'laws.FnExactNextFrame', WHERE WHAT IT READS IS OF BULK AT MOST 1048576: true; the input reads as it did. -/
def fnExactNextFrameUptoRow : OpenClaim := { program := "ytkddnennodonhaa", sum := "bf07cf800cbb1e0fdde1f6051547194e56e7c156227223942383e2e3ba405de9", func := "loop.example/g00227/laws.FnExactNextFrame", spec := "fnExactNextFrame", apart := false, narrowed := true }
def FnExactNextFrameUptoSaid : Prop := fnExactNextFrameUptoRow.holds Try.pinned (OpenSpec.upto fnExactNextFrameSpec)

/-- 'laws.FnExactFrames', WHERE WHAT IT READS IS OF BULK AT MOST 1048576: true; the input reads as it did. -/
def fnExactFramesUptoRow : OpenClaim := { program := "ytkddnennodonhaa", sum := "bf07cf800cbb1e0fdde1f6051547194e56e7c156227223942383e2e3ba405de9", func := "loop.example/g00227/laws.FnExactFrames", spec := "fnExactFrames", unfollowed := true, recurses := true, apart := false, narrowed := true }
def FnExactFramesUptoSaid : Prop := fnExactFramesUptoRow.holds Try.pinned (OpenSpec.upto fnExactFramesSpec)

/-- 'laws.FnExactCut', WHERE WHAT IT READS IS OF BULK AT MOST 1048576: true; the input reads as it did. -/
def fnExactCutUptoRow : OpenClaim := { program := "ytkddnennodonhaa", sum := "bf07cf800cbb1e0fdde1f6051547194e56e7c156227223942383e2e3ba405de9", func := "loop.example/g00227/laws.FnExactCut", spec := "fnExactCut", inPlace := ["internal/abi.NoEscape"], apart := false, narrowed := true }
def FnExactCutUptoSaid : Prop := fnExactCutUptoRow.holds Try.pinned (OpenSpec.upto fnExactCutSpec)

end Rows
end Go.Proofs.Ytkddnennodonhaa
