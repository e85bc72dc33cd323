/-
  No cell of these rows narrows 'for every input' (looked for: loops, veiled, ifaces, maps, wideKeys, modest, calm, conditions, laid).
  DERIVED. THE GIVEN ROWS OF THIS SEAT. 3 by the template 'for every input the law returns true; each argument reads behind the call as it read before'; 0 by the template 'total and deterministic' (their statements: YtpdiladohkeofabTotals.lean).
  GIVEN WITH THE SEED: the statements are not yours to turn. If you find one false, say at which input.
  Laid BY PROGRAM, IN A SANDBOX (cutbox-rows.mjs): the forced cells as the released guide's own fill.sh prints them over the translation 159f2e8922c38f65… (all of the seat's roots in one cut). By AI agents, Wed Nov 11 2026. No macro, syntax, notation, axiom, sorry.
-/
import Derived.Test.YtpdiladohkeofabChecked
import GoSem.Claim
import GoSem.ClaimJoined
import GoSem.ClaimMapViews
import Derived.JoinedTies
import Derived.KernelRfl
namespace Go.Proofs.Ytpdiladohkeofab
/- THE CELL 'sum', in the pinned program and in every row, IS THE sha256 OF THE DUMP (.gsa) THAT YtpdiladohkeofabProg.lean LOADS. Nothing in Lean hashes anything: it is a label: what it is worth is what the hold of that sum in a sandbox is worth. -/
noncomputable def Try.pinned : Pinned := { name := "ytpdiladohkeofab", sum := "159f2e8922c38f657d9b38c0bf87c1721a75a471856b3db8aef3840fb712fa44", checked := Try.checked }
namespace Rows
def none {H : Type} : Left H := { results := [], args := [] }

/-- 'laws.FnExactStreamSeek': WHATEVER THE INPUT: true; the input reads as it did. -/
def fnExactStreamSeekSpec : ChangeSpec := { name := "fnExactStreamSeek", fn := fun _ => fun
  | [d1, d2] => { results := [.lit (.bool true)], args := [d1, d2] }
  | _ => none }
def fnExactStreamSeekRow : OpenClaim := { program := "ytpdiladohkeofab", sum := "159f2e8922c38f657d9b38c0bf87c1721a75a471856b3db8aef3840fb712fa44", func := "loop.example/g00227/laws.FnExactStreamSeek", spec := "fnExactStreamSeek", unfollowed := true, recurses := true, apart := false }
def FnExactStreamSeekSaid : Prop := fnExactStreamSeekRow.holds Try.pinned (OpenSpec.ofChange fnExactStreamSeekSpec)

/-- ITS FALSE NEIGHBOUR: 'it returns false'. Refute it at one input. -/
def fnExactStreamSeekWrong : ChangeSpec := { name := "fnExactStreamSeek", fn := fun _ => fun
  | [d1, d2] => { results := [.lit (.bool false)], args := [d1, d2] }
  | _ => none }
def FnExactStreamSeekWrongFalsely : Prop := fnExactStreamSeekRow.holds Try.pinned (OpenSpec.ofChange fnExactStreamSeekWrong)

/-- 'laws.FnExactStreamMark': WHATEVER THE INPUT: true; the input reads as it did. -/
def fnExactStreamMarkSpec : ChangeSpec := { name := "fnExactStreamMark", fn := fun _ => fun
  | [d1, d2, d3] => { results := [.lit (.bool true)], args := [d1, d2, d3] }
  | _ => none }
def fnExactStreamMarkRow : OpenClaim := { program := "ytpdiladohkeofab", sum := "159f2e8922c38f657d9b38c0bf87c1721a75a471856b3db8aef3840fb712fa44", func := "loop.example/g00227/laws.FnExactStreamMark", spec := "fnExactStreamMark", inPlace := ["slices.overlaps[loop.example/g00227/impl.Mark]"], unfollowed := true, recurses := true, apart := false }
def FnExactStreamMarkSaid : Prop := fnExactStreamMarkRow.holds Try.pinned (OpenSpec.ofChange fnExactStreamMarkSpec)

/-- ITS FALSE NEIGHBOUR: 'it returns false'. Refute it at one input. -/
def fnExactStreamMarkWrong : ChangeSpec := { name := "fnExactStreamMark", fn := fun _ => fun
  | [d1, d2, d3] => { results := [.lit (.bool false)], args := [d1, d2, d3] }
  | _ => none }
def FnExactStreamMarkWrongFalsely : Prop := fnExactStreamMarkRow.holds Try.pinned (OpenSpec.ofChange fnExactStreamMarkWrong)

/-- 'laws.FnExactStreamMarked': WHATEVER THE INPUT: true; the input reads as it did. -/
def fnExactStreamMarkedSpec : ChangeSpec := { name := "fnExactStreamMarked", fn := fun _ => fun
  | [d1, d2] => { results := [.lit (.bool true)], args := [d1, d2] }
  | _ => none }
def fnExactStreamMarkedRow : OpenClaim := { program := "ytpdiladohkeofab", sum := "159f2e8922c38f657d9b38c0bf87c1721a75a471856b3db8aef3840fb712fa44", func := "loop.example/g00227/laws.FnExactStreamMarked", spec := "fnExactStreamMarked", apart := false }
def FnExactStreamMarkedSaid : Prop := fnExactStreamMarkedRow.holds Try.pinned (OpenSpec.ofChange fnExactStreamMarkedSpec)

/-- ITS FALSE NEIGHBOUR: 'it returns false'. Refute it at one input. -/
def fnExactStreamMarkedWrong : ChangeSpec := { name := "fnExactStreamMarked", fn := fun _ => fun
  | [d1, d2] => { results := [.lit (.bool false)], args := [d1, d2] }
  | _ => none }
def FnExactStreamMarkedWrongFalsely : Prop := fnExactStreamMarkedRow.holds Try.pinned (OpenSpec.ofChange fnExactStreamMarkedWrong)

/- THE SECOND FORM. 'bulk': how many values and letters a reading holds, each counted each time it is reached (what is shared counts as often as it is met; a slice's spare places count too). A statement '..UptoSaid' is the law's where the arguments, and the package variables that the reading takes, are together of bulk at most 1048576: NARROWER than '..Said'. Prove '..Said' where nothing that the law and all that it calls make is longer than what came in: it says more and counts as full. Else prove '..UptoSaid'. A law counts once. -/
mutual
def uptoBulk {H : Type} : DataW H → Nat
  | .lit (.string bytes) => bytes.length + 1
  | .lit _ => 1
  | .nil => 1
  | .ptr d => uptoBulk d + 1
  | .slice elems spare => uptoBulkAll elems + uptoBulkAll spare + 1
  | .agg parts => uptoBulkAll parts + 1
  | .iface _ d => uptoBulk d + 1
  | .map entries => uptoBulkEntries entries + 1
  | .held _ => 1
def uptoBulkAll {H : Type} : List (DataW H) → Nat
  | [] => 0
  | d :: r => uptoBulk d + uptoBulkAll r
def uptoBulkEntries {H : Type} : List (Lit × DataW H) → Nat
  | [] => 0
  | x :: r => uptoBulkEntry x + uptoBulkEntries r
def uptoBulkEntry {H : Type} : Lit × DataW H → Nat
  | (.string bytes, d) => bytes.length + uptoBulk d + 1
  | (_, d) => uptoBulk d + 1
 end
def uptoSmall : (H : Type) → List (DataW H) → Bool := fun _ ds => decide (uptoBulkAll ds ≤ 1048576)
def OpenSpec.upto (s : _root_.Go.ChangeSpec) : _root_.Go.OpenSpec := { _root_.Go.OpenSpec.ofChange s with cond := some uptoSmall }

/-- 'laws.FnExactStreamSeek', WHERE WHAT IT READS IS OF BULK AT MOST 1048576: true; the input reads as it did. -/
def fnExactStreamSeekUptoRow : OpenClaim := { program := "ytpdiladohkeofab", sum := "159f2e8922c38f657d9b38c0bf87c1721a75a471856b3db8aef3840fb712fa44", func := "loop.example/g00227/laws.FnExactStreamSeek", spec := "fnExactStreamSeek", unfollowed := true, recurses := true, apart := false, narrowed := true }
def FnExactStreamSeekUptoSaid : Prop := fnExactStreamSeekUptoRow.holds Try.pinned (OpenSpec.upto fnExactStreamSeekSpec)

/-- 'laws.FnExactStreamMark', WHERE WHAT IT READS IS OF BULK AT MOST 1048576: true; the input reads as it did. -/
def fnExactStreamMarkUptoRow : OpenClaim := { program := "ytpdiladohkeofab", sum := "159f2e8922c38f657d9b38c0bf87c1721a75a471856b3db8aef3840fb712fa44", func := "loop.example/g00227/laws.FnExactStreamMark", spec := "fnExactStreamMark", inPlace := ["slices.overlaps[loop.example/g00227/impl.Mark]"], unfollowed := true, recurses := true, apart := false, narrowed := true }
def FnExactStreamMarkUptoSaid : Prop := fnExactStreamMarkUptoRow.holds Try.pinned (OpenSpec.upto fnExactStreamMarkSpec)

/-- 'laws.FnExactStreamMarked', WHERE WHAT IT READS IS OF BULK AT MOST 1048576: true; the input reads as it did. -/
def fnExactStreamMarkedUptoRow : OpenClaim := { program := "ytpdiladohkeofab", sum := "159f2e8922c38f657d9b38c0bf87c1721a75a471856b3db8aef3840fb712fa44", func := "loop.example/g00227/laws.FnExactStreamMarked", spec := "fnExactStreamMarked", apart := false, narrowed := true }
def FnExactStreamMarkedUptoSaid : Prop := fnExactStreamMarkedUptoRow.holds Try.pinned (OpenSpec.upto fnExactStreamMarkedSpec)

end Rows
end Go.Proofs.Ytpdiladohkeofab
