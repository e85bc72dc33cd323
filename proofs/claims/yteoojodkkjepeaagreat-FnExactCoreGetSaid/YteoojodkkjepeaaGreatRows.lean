/-
  No cell of these rows narrows 'for every input' (looked for: loops, veiled, ifaces, maps, wideKeys, modest, calm, conditions, laid).
  DERIVED. THE GIVEN ROWS OF THIS SEAT. 7 by the template 'for every input the law returns true; each argument reads behind the call as it read before'; 0 by the template 'total and deterministic' (their statements: YteoojodkkjepeaaGreatTotals.lean).
  GIVEN WITH THE SEED: the statements are not yours to turn. If you find one false, say at which input.
  Laid BY PROGRAM, IN A SANDBOX (cutbox-rows.mjs): the forced cells as the released guide's own fill.sh prints them over the translation d2230513aff4728a… (all of the seat's roots in one cut). By AI agents, Wed Nov 11 2026. No macro, syntax, notation, axiom, sorry.
-/
import Derived.Test.YteoojodkkjepeaaGreatChecked
import GoSem.Claim
import GoSem.ClaimJoined
import GoSem.ClaimMapViews
import Derived.JoinedTies
import Derived.KernelRfl
namespace Go.Proofs.YteoojodkkjepeaaGreat
/- THE CELL 'sum', in the pinned program and in every row, IS THE sha256 OF THE DUMP (.gsa) THAT YteoojodkkjepeaaGreatProg.lean LOADS. Nothing in Lean hashes anything: it is a label: what it is worth is what the hold of that sum in a sandbox is worth. -/
noncomputable def Tryz.pinned : Pinned := { name := "yteoojodkkjepeaagreat", sum := "d2230513aff4728af873da1fe66a6516e15d6537d0b67f0c7d3aa548fcdb3ff3", checked := Tryz.checked }
namespace Rows
def none {H : Type} : Left H := { results := [], args := [] }

/-- 'laws.FnExactCoreOk': WHATEVER THE INPUT: true; the input reads as it did. -/
def fnExactCoreOkSpec : ChangeSpec := { name := "fnExactCoreOk", fn := fun _ => fun
  | [d] => { results := [.lit (.bool true)], args := [d] }
  | _ => none }
def fnExactCoreOkRow : OpenClaim := { program := "yteoojodkkjepeaagreat", sum := "d2230513aff4728af873da1fe66a6516e15d6537d0b67f0c7d3aa548fcdb3ff3", func := "loop.example/g00227/laws.FnExactCoreOk", spec := "fnExactCoreOk", unfollowed := true, recurses := true, apart := false }
def FnExactCoreOkSaid : Prop := fnExactCoreOkRow.holds Tryz.pinned (OpenSpec.ofChange fnExactCoreOkSpec)

/-- ITS FALSE NEIGHBOUR: 'it returns false'. Refute it at one input. -/
def fnExactCoreOkWrong : ChangeSpec := { name := "fnExactCoreOk", fn := fun _ => fun
  | [d] => { results := [.lit (.bool false)], args := [d] }
  | _ => none }
def FnExactCoreOkWrongFalsely : Prop := fnExactCoreOkRow.holds Tryz.pinned (OpenSpec.ofChange fnExactCoreOkWrong)

/-- 'laws.FnExactCoreQueue': WHATEVER THE INPUT: true; the input reads as it did. -/
def fnExactCoreQueueSpec : ChangeSpec := { name := "fnExactCoreQueue", fn := fun _ => fun
  | [d1, d2, d3] => { results := [.lit (.bool true)], args := [d1, d2, d3] }
  | _ => none }
def fnExactCoreQueueRow : OpenClaim := { program := "yteoojodkkjepeaagreat", sum := "d2230513aff4728af873da1fe66a6516e15d6537d0b67f0c7d3aa548fcdb3ff3", func := "loop.example/g00227/laws.FnExactCoreQueue", spec := "fnExactCoreQueue", inPlace := ["slices.overlaps[loop.example/g00227/impl.Stream]", "slices.overlaps[loop.example/g00227/impl.Queue]"], unfollowed := true, recurses := true, apart := false }
def FnExactCoreQueueSaid : Prop := fnExactCoreQueueRow.holds Tryz.pinned (OpenSpec.ofChange fnExactCoreQueueSpec)

/-- ITS FALSE NEIGHBOUR: 'it returns false'. Refute it at one input. -/
def fnExactCoreQueueWrong : ChangeSpec := { name := "fnExactCoreQueue", fn := fun _ => fun
  | [d1, d2, d3] => { results := [.lit (.bool false)], args := [d1, d2, d3] }
  | _ => none }
def FnExactCoreQueueWrongFalsely : Prop := fnExactCoreQueueRow.holds Tryz.pinned (OpenSpec.ofChange fnExactCoreQueueWrong)

/-- 'laws.FnExactCoreGet': WHATEVER THE INPUT: true; the input reads as it did. -/
def fnExactCoreGetSpec : ChangeSpec := { name := "fnExactCoreGet", fn := fun _ => fun
  | [d1, d2, d3, d4] => { results := [.lit (.bool true)], args := [d1, d2, d3, d4] }
  | _ => none }
def fnExactCoreGetRow : OpenClaim := { program := "yteoojodkkjepeaagreat", sum := "d2230513aff4728af873da1fe66a6516e15d6537d0b67f0c7d3aa548fcdb3ff3", func := "loop.example/g00227/laws.FnExactCoreGet", spec := "fnExactCoreGet", inPlace := ["slices.overlaps[loop.example/g00227/impl.Held]"], unfollowed := true, recurses := true, apart := false }
def FnExactCoreGetSaid : Prop := fnExactCoreGetRow.holds Tryz.pinned (OpenSpec.ofChange fnExactCoreGetSpec)

/-- ITS FALSE NEIGHBOUR: 'it returns false'. Refute it at one input. -/
def fnExactCoreGetWrong : ChangeSpec := { name := "fnExactCoreGet", fn := fun _ => fun
  | [d1, d2, d3, d4] => { results := [.lit (.bool false)], args := [d1, d2, d3, d4] }
  | _ => none }
def FnExactCoreGetWrongFalsely : Prop := fnExactCoreGetRow.holds Tryz.pinned (OpenSpec.ofChange fnExactCoreGetWrong)

/-- 'laws.FnExactCoreAck': WHATEVER THE INPUT: true; the input reads as it did. -/
def fnExactCoreAckSpec : ChangeSpec := { name := "fnExactCoreAck", fn := fun _ => fun
  | [d1, d2, d3, d4] => { results := [.lit (.bool true)], args := [d1, d2, d3, d4] }
  | _ => none }
def fnExactCoreAckRow : OpenClaim := { program := "yteoojodkkjepeaagreat", sum := "d2230513aff4728af873da1fe66a6516e15d6537d0b67f0c7d3aa548fcdb3ff3", func := "loop.example/g00227/laws.FnExactCoreAck", spec := "fnExactCoreAck", unfollowed := true, recurses := true, apart := false }
def FnExactCoreAckSaid : Prop := fnExactCoreAckRow.holds Tryz.pinned (OpenSpec.ofChange fnExactCoreAckSpec)

/-- ITS FALSE NEIGHBOUR: 'it returns false'. Refute it at one input. -/
def fnExactCoreAckWrong : ChangeSpec := { name := "fnExactCoreAck", fn := fun _ => fun
  | [d1, d2, d3, d4] => { results := [.lit (.bool false)], args := [d1, d2, d3, d4] }
  | _ => none }
def FnExactCoreAckWrongFalsely : Prop := fnExactCoreAckRow.holds Tryz.pinned (OpenSpec.ofChange fnExactCoreAckWrong)

/-- 'laws.FnExactCoreNack': WHATEVER THE INPUT: true; the input reads as it did. -/
def fnExactCoreNackSpec : ChangeSpec := { name := "fnExactCoreNack", fn := fun _ => fun
  | [d1, d2, d3, d4, d5] => { results := [.lit (.bool true)], args := [d1, d2, d3, d4, d5] }
  | _ => none }
def fnExactCoreNackRow : OpenClaim := { program := "yteoojodkkjepeaagreat", sum := "d2230513aff4728af873da1fe66a6516e15d6537d0b67f0c7d3aa548fcdb3ff3", func := "loop.example/g00227/laws.FnExactCoreNack", spec := "fnExactCoreNack", unfollowed := true, recurses := true, apart := false }
def FnExactCoreNackSaid : Prop := fnExactCoreNackRow.holds Tryz.pinned (OpenSpec.ofChange fnExactCoreNackSpec)

/-- ITS FALSE NEIGHBOUR: 'it returns false'. Refute it at one input. -/
def fnExactCoreNackWrong : ChangeSpec := { name := "fnExactCoreNack", fn := fun _ => fun
  | [d1, d2, d3, d4, d5] => { results := [.lit (.bool false)], args := [d1, d2, d3, d4, d5] }
  | _ => none }
def FnExactCoreNackWrongFalsely : Prop := fnExactCoreNackRow.holds Tryz.pinned (OpenSpec.ofChange fnExactCoreNackWrong)

/-- 'laws.FnExactCoreLeave': WHATEVER THE INPUT: true; the input reads as it did. -/
def fnExactCoreLeaveSpec : ChangeSpec := { name := "fnExactCoreLeave", fn := fun _ => fun
  | [d1, d2] => { results := [.lit (.bool true)], args := [d1, d2] }
  | _ => none }
def fnExactCoreLeaveRow : OpenClaim := { program := "yteoojodkkjepeaagreat", sum := "d2230513aff4728af873da1fe66a6516e15d6537d0b67f0c7d3aa548fcdb3ff3", func := "loop.example/g00227/laws.FnExactCoreLeave", spec := "fnExactCoreLeave", unfollowed := true, recurses := true, apart := false }
def FnExactCoreLeaveSaid : Prop := fnExactCoreLeaveRow.holds Tryz.pinned (OpenSpec.ofChange fnExactCoreLeaveSpec)

/-- ITS FALSE NEIGHBOUR: 'it returns false'. Refute it at one input. -/
def fnExactCoreLeaveWrong : ChangeSpec := { name := "fnExactCoreLeave", fn := fun _ => fun
  | [d1, d2] => { results := [.lit (.bool false)], args := [d1, d2] }
  | _ => none }
def FnExactCoreLeaveWrongFalsely : Prop := fnExactCoreLeaveRow.holds Tryz.pinned (OpenSpec.ofChange fnExactCoreLeaveWrong)

/-- 'laws.FnExactSettled': WHATEVER THE INPUT: true; the input reads as it did. -/
def fnExactSettledSpec : ChangeSpec := { name := "fnExactSettled", fn := fun _ => fun
  | [d] => { results := [.lit (.bool true)], args := [d] }
  | _ => none }
def fnExactSettledRow : OpenClaim := { program := "yteoojodkkjepeaagreat", sum := "d2230513aff4728af873da1fe66a6516e15d6537d0b67f0c7d3aa548fcdb3ff3", func := "loop.example/g00227/laws.FnExactSettled", spec := "fnExactSettled", unfollowed := true, recurses := true, apart := false }
def FnExactSettledSaid : Prop := fnExactSettledRow.holds Tryz.pinned (OpenSpec.ofChange fnExactSettledSpec)

/-- ITS FALSE NEIGHBOUR: 'it returns false'. Refute it at one input. -/
def fnExactSettledWrong : ChangeSpec := { name := "fnExactSettled", fn := fun _ => fun
  | [d] => { results := [.lit (.bool false)], args := [d] }
  | _ => none }
def FnExactSettledWrongFalsely : Prop := fnExactSettledRow.holds Tryz.pinned (OpenSpec.ofChange fnExactSettledWrong)

/- THE SECOND FORM. 'bulk': how many values and letters a reading holds, each counted each time it is reached (what is shared counts as often as it is met; a slice's spare places count too). A statement '..UptoSaid' is the law's where the arguments, and the package variables that the reading takes, are together of bulk at most 1048576: NARROWER than '..Said'. Prove '..Said' where nothing that the law and all that it calls make is longer than what came in: it says more and counts as full. Else prove '..UptoSaid'. A law counts once. -/
mutual
def uptoBulk {H : Type} : DataW H → Nat
  | .lit (.string bytes) => bytes.length + 1
  | .lit _ => 1
  | .nil => 1
  | .ptr d => uptoBulk d + 1
  | .slice elems spare => uptoBulkAll elems + uptoBulkAll spare + 1
  | .agg parts => uptoBulkAll parts + 1
  | .iface _ d => uptoBulk d + 1
  | .map entries => uptoBulkEntries entries + 1
  | .held _ => 1
def uptoBulkAll {H : Type} : List (DataW H) → Nat
  | [] => 0
  | d :: r => uptoBulk d + uptoBulkAll r
def uptoBulkEntries {H : Type} : List (Lit × DataW H) → Nat
  | [] => 0
  | x :: r => uptoBulkEntry x + uptoBulkEntries r
def uptoBulkEntry {H : Type} : Lit × DataW H → Nat
  | (.string bytes, d) => bytes.length + uptoBulk d + 1
  | (_, d) => uptoBulk d + 1
 end
def uptoSmall : (H : Type) → List (DataW H) → Bool := fun _ ds => decide (uptoBulkAll ds ≤ 1048576)
def OpenSpec.upto (s : _root_.Go.ChangeSpec) : _root_.Go.OpenSpec := { _root_.Go.OpenSpec.ofChange s with cond := some uptoSmall }

/-- 'laws.FnExactCoreOk', WHERE WHAT IT READS IS OF BULK AT MOST 1048576: true; the input reads as it did. -/
def fnExactCoreOkUptoRow : OpenClaim := { program := "yteoojodkkjepeaagreat", sum := "d2230513aff4728af873da1fe66a6516e15d6537d0b67f0c7d3aa548fcdb3ff3", func := "loop.example/g00227/laws.FnExactCoreOk", spec := "fnExactCoreOk", unfollowed := true, recurses := true, apart := false, narrowed := true }
def FnExactCoreOkUptoSaid : Prop := fnExactCoreOkUptoRow.holds Tryz.pinned (OpenSpec.upto fnExactCoreOkSpec)

/-- 'laws.FnExactCoreQueue', WHERE WHAT IT READS IS OF BULK AT MOST 1048576: true; the input reads as it did. -/
def fnExactCoreQueueUptoRow : OpenClaim := { program := "yteoojodkkjepeaagreat", sum := "d2230513aff4728af873da1fe66a6516e15d6537d0b67f0c7d3aa548fcdb3ff3", func := "loop.example/g00227/laws.FnExactCoreQueue", spec := "fnExactCoreQueue", inPlace := ["slices.overlaps[loop.example/g00227/impl.Stream]", "slices.overlaps[loop.example/g00227/impl.Queue]"], unfollowed := true, recurses := true, apart := false, narrowed := true }
def FnExactCoreQueueUptoSaid : Prop := fnExactCoreQueueUptoRow.holds Tryz.pinned (OpenSpec.upto fnExactCoreQueueSpec)

/-- 'laws.FnExactCoreGet', WHERE WHAT IT READS IS OF BULK AT MOST 1048576: true; the input reads as it did. -/
def fnExactCoreGetUptoRow : OpenClaim := { program := "yteoojodkkjepeaagreat", sum := "d2230513aff4728af873da1fe66a6516e15d6537d0b67f0c7d3aa548fcdb3ff3", func := "loop.example/g00227/laws.FnExactCoreGet", spec := "fnExactCoreGet", inPlace := ["slices.overlaps[loop.example/g00227/impl.Held]"], unfollowed := true, recurses := true, apart := false, narrowed := true }
def FnExactCoreGetUptoSaid : Prop := fnExactCoreGetUptoRow.holds Tryz.pinned (OpenSpec.upto fnExactCoreGetSpec)

/-- 'laws.FnExactCoreAck', WHERE WHAT IT READS IS OF BULK AT MOST 1048576: true; the input reads as it did. -/
def fnExactCoreAckUptoRow : OpenClaim := { program := "yteoojodkkjepeaagreat", sum := "d2230513aff4728af873da1fe66a6516e15d6537d0b67f0c7d3aa548fcdb3ff3", func := "loop.example/g00227/laws.FnExactCoreAck", spec := "fnExactCoreAck", unfollowed := true, recurses := true, apart := false, narrowed := true }
def FnExactCoreAckUptoSaid : Prop := fnExactCoreAckUptoRow.holds Tryz.pinned (OpenSpec.upto fnExactCoreAckSpec)

/-- 'laws.FnExactCoreNack', WHERE WHAT IT READS IS OF BULK AT MOST 1048576: true; the input reads as it did. -/
def fnExactCoreNackUptoRow : OpenClaim := { program := "yteoojodkkjepeaagreat", sum := "d2230513aff4728af873da1fe66a6516e15d6537d0b67f0c7d3aa548fcdb3ff3", func := "loop.example/g00227/laws.FnExactCoreNack", spec := "fnExactCoreNack", unfollowed := true, recurses := true, apart := false, narrowed := true }
def FnExactCoreNackUptoSaid : Prop := fnExactCoreNackUptoRow.holds Tryz.pinned (OpenSpec.upto fnExactCoreNackSpec)

/-- 'laws.FnExactCoreLeave', WHERE WHAT IT READS IS OF BULK AT MOST 1048576: true; the input reads as it did. -/
def fnExactCoreLeaveUptoRow : OpenClaim := { program := "yteoojodkkjepeaagreat", sum := "d2230513aff4728af873da1fe66a6516e15d6537d0b67f0c7d3aa548fcdb3ff3", func := "loop.example/g00227/laws.FnExactCoreLeave", spec := "fnExactCoreLeave", unfollowed := true, recurses := true, apart := false, narrowed := true }
def FnExactCoreLeaveUptoSaid : Prop := fnExactCoreLeaveUptoRow.holds Tryz.pinned (OpenSpec.upto fnExactCoreLeaveSpec)

/-- 'laws.FnExactSettled', WHERE WHAT IT READS IS OF BULK AT MOST 1048576: true; the input reads as it did. -/
def fnExactSettledUptoRow : OpenClaim := { program := "yteoojodkkjepeaagreat", sum := "d2230513aff4728af873da1fe66a6516e15d6537d0b67f0c7d3aa548fcdb3ff3", func := "loop.example/g00227/laws.FnExactSettled", spec := "fnExactSettled", unfollowed := true, recurses := true, apart := false, narrowed := true }
def FnExactSettledUptoSaid : Prop := fnExactSettledUptoRow.holds Tryz.pinned (OpenSpec.upto fnExactSettledSpec)

end Rows
end Go.Proofs.YteoojodkkjepeaaGreat
