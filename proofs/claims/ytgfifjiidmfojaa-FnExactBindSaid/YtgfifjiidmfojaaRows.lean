/-
  No cell of these rows narrows 'for every input' (looked for: loops, veiled, ifaces, maps, wideKeys, modest, calm, conditions, laid).
  DERIVED. THE GIVEN ROWS OF THIS SEAT. 3 by the template 'for every input the law returns true; each argument reads behind the call as it read before'; 0 by the template 'total and deterministic' (their statements: YtgfifjiidmfojaaTotals.lean).
  GIVEN WITH THE SEED: the statements are not yours to turn. If you find one false, say at which input.
  Laid BY PROGRAM, IN A SANDBOX (cutbox-rows.mjs): the forced cells as the released guide's own fill.sh prints them over the translation a2b82189525add38… (all of the seat's roots in one cut). By AI agents, Wed Nov 11 2026. No macro, syntax, notation, axiom, sorry.
-/
import Derived.Test.YtgfifjiidmfojaaChecked
import GoSem.Claim
import GoSem.ClaimJoined
import GoSem.ClaimMapViews
import Derived.JoinedTies
import Derived.KernelRfl
namespace Go.Proofs.Ytgfifjiidmfojaa
/- THE CELL 'sum', in the pinned program and in every row, IS THE sha256 OF THE DUMP (.gsa) THAT YtgfifjiidmfojaaProg.lean LOADS. Nothing in Lean hashes anything: it is a label: what it is worth is what the hold of that sum in a sandbox is worth. -/
noncomputable def Try.pinned : Pinned := { name := "ytgfifjiidmfojaa", sum := "a2b82189525add385cf978739fdf68693c668acf9eb4ba9437ee53918c4b9815", checked := Try.checked }
namespace Rows
def none {H : Type} : Left H := { results := [], args := [] }

/-- 'laws.FnExactDeclare': WHATEVER THE INPUT: true; the input reads as it did. -/
def fnExactDeclareSpec : ChangeSpec := { name := "fnExactDeclare", fn := fun _ => fun
  | [d1, d2, d3] => { results := [.lit (.bool true)], args := [d1, d2, d3] }
  | _ => none }
def fnExactDeclareRow : OpenClaim := { program := "ytgfifjiidmfojaa", sum := "a2b82189525add385cf978739fdf68693c668acf9eb4ba9437ee53918c4b9815", func := "loop.example/g00227/laws.FnExactDeclare", spec := "fnExactDeclare", inPlace := ["slices.overlaps[loop.example/g00227/impl.Exchange]"], unfollowed := true, recurses := true, apart := false }
def FnExactDeclareSaid : Prop := fnExactDeclareRow.holds Try.pinned (OpenSpec.ofChange fnExactDeclareSpec)

/-- ITS FALSE NEIGHBOUR: 'it returns false'. Refute it at one input. -/
def fnExactDeclareWrong : ChangeSpec := { name := "fnExactDeclare", fn := fun _ => fun
  | [d1, d2, d3] => { results := [.lit (.bool false)], args := [d1, d2, d3] }
  | _ => none }
def FnExactDeclareWrongFalsely : Prop := fnExactDeclareRow.holds Try.pinned (OpenSpec.ofChange fnExactDeclareWrong)

/-- 'laws.FnExactBind': WHATEVER THE INPUT: true; the input reads as it did. -/
def fnExactBindSpec : ChangeSpec := { name := "fnExactBind", fn := fun _ => fun
  | [d1, d2, d3, d4] => { results := [.lit (.bool true)], args := [d1, d2, d3, d4] }
  | _ => none }
def fnExactBindRow : OpenClaim := { program := "ytgfifjiidmfojaa", sum := "a2b82189525add385cf978739fdf68693c668acf9eb4ba9437ee53918c4b9815", func := "loop.example/g00227/laws.FnExactBind", spec := "fnExactBind", inPlace := ["slices.overlaps[loop.example/g00227/impl.Binding]"], unfollowed := true, recurses := true, apart := false }
def FnExactBindSaid : Prop := fnExactBindRow.holds Try.pinned (OpenSpec.ofChange fnExactBindSpec)

/-- ITS FALSE NEIGHBOUR: 'it returns false'. Refute it at one input. -/
def fnExactBindWrong : ChangeSpec := { name := "fnExactBind", fn := fun _ => fun
  | [d1, d2, d3, d4] => { results := [.lit (.bool false)], args := [d1, d2, d3, d4] }
  | _ => none }
def FnExactBindWrongFalsely : Prop := fnExactBindRow.holds Try.pinned (OpenSpec.ofChange fnExactBindWrong)

/-- 'laws.FnExactUnbind': WHATEVER THE INPUT: true; the input reads as it did. -/
def fnExactUnbindSpec : ChangeSpec := { name := "fnExactUnbind", fn := fun _ => fun
  | [d1, d2] => { results := [.lit (.bool true)], args := [d1, d2] }
  | _ => none }
def fnExactUnbindRow : OpenClaim := { program := "ytgfifjiidmfojaa", sum := "a2b82189525add385cf978739fdf68693c668acf9eb4ba9437ee53918c4b9815", func := "loop.example/g00227/laws.FnExactUnbind", spec := "fnExactUnbind", unfollowed := true, recurses := true, apart := false }
def FnExactUnbindSaid : Prop := fnExactUnbindRow.holds Try.pinned (OpenSpec.ofChange fnExactUnbindSpec)

/-- ITS FALSE NEIGHBOUR: 'it returns false'. Refute it at one input. -/
def fnExactUnbindWrong : ChangeSpec := { name := "fnExactUnbind", fn := fun _ => fun
  | [d1, d2] => { results := [.lit (.bool false)], args := [d1, d2] }
  | _ => none }
def FnExactUnbindWrongFalsely : Prop := fnExactUnbindRow.holds Try.pinned (OpenSpec.ofChange fnExactUnbindWrong)

/- THE SECOND FORM. 'bulk': how many values and letters a reading holds, each counted each time it is reached (what is shared counts as often as it is met; a slice's spare places count too). A statement '..UptoSaid' is the law's where the arguments, and the package variables that the reading takes, are together of bulk at most 1048576: NARROWER than '..Said'. Prove '..Said' where nothing that the law and all that it calls make is longer than what came in: it says more and counts as full. Else prove '..UptoSaid'. A law counts once. -/
mutual
def uptoBulk {H : Type} : DataW H → Nat
  | .lit (.string bytes) => bytes.length + 1
  | .lit _ => 1
  | .nil => 1
  | .ptr d => uptoBulk d + 1
  | .slice elems spare => uptoBulkAll elems + uptoBulkAll spare + 1
  | .agg parts => uptoBulkAll parts + 1
  | .iface _ d => uptoBulk d + 1
  | .map entries => uptoBulkEntries entries + 1
  | .held _ => 1
def uptoBulkAll {H : Type} : List (DataW H) → Nat
  | [] => 0
  | d :: r => uptoBulk d + uptoBulkAll r
def uptoBulkEntries {H : Type} : List (Lit × DataW H) → Nat
  | [] => 0
  | x :: r => uptoBulkEntry x + uptoBulkEntries r
def uptoBulkEntry {H : Type} : Lit × DataW H → Nat
  | (.string bytes, d) => bytes.length + uptoBulk d + 1
  | (_, d) => uptoBulk d + 1
 end
def uptoSmall : (H : Type) → List (DataW H) → Bool := fun _ ds => decide (uptoBulkAll ds ≤ 1048576)
def OpenSpec.upto (s : _root_.Go.ChangeSpec) : _root_.Go.OpenSpec := { _root_.Go.OpenSpec.ofChange s with cond := some uptoSmall }

/-- 'laws.FnExactDeclare', WHERE WHAT IT READS IS OF BULK AT MOST 1048576: true; the input reads as it did. -/
def fnExactDeclareUptoRow : OpenClaim := { program := "ytgfifjiidmfojaa", sum := "a2b82189525add385cf978739fdf68693c668acf9eb4ba9437ee53918c4b9815", func := "loop.example/g00227/laws.FnExactDeclare", spec := "fnExactDeclare", inPlace := ["slices.overlaps[loop.example/g00227/impl.Exchange]"], unfollowed := true, recurses := true, apart := false, narrowed := true }
def FnExactDeclareUptoSaid : Prop := fnExactDeclareUptoRow.holds Try.pinned (OpenSpec.upto fnExactDeclareSpec)

/-- 'laws.FnExactBind', WHERE WHAT IT READS IS OF BULK AT MOST 1048576: true; the input reads as it did. -/
def fnExactBindUptoRow : OpenClaim := { program := "ytgfifjiidmfojaa", sum := "a2b82189525add385cf978739fdf68693c668acf9eb4ba9437ee53918c4b9815", func := "loop.example/g00227/laws.FnExactBind", spec := "fnExactBind", inPlace := ["slices.overlaps[loop.example/g00227/impl.Binding]"], unfollowed := true, recurses := true, apart := false, narrowed := true }
def FnExactBindUptoSaid : Prop := fnExactBindUptoRow.holds Try.pinned (OpenSpec.upto fnExactBindSpec)

/-- 'laws.FnExactUnbind', WHERE WHAT IT READS IS OF BULK AT MOST 1048576: true; the input reads as it did. -/
def fnExactUnbindUptoRow : OpenClaim := { program := "ytgfifjiidmfojaa", sum := "a2b82189525add385cf978739fdf68693c668acf9eb4ba9437ee53918c4b9815", func := "loop.example/g00227/laws.FnExactUnbind", spec := "fnExactUnbind", unfollowed := true, recurses := true, apart := false, narrowed := true }
def FnExactUnbindUptoSaid : Prop := fnExactUnbindUptoRow.holds Try.pinned (OpenSpec.upto fnExactUnbindSpec)

end Rows
end Go.Proofs.Ytgfifjiidmfojaa
