/-
  DERIVED. GIVEN WITH THE SEED: THE CARDS: each row of YtpdiladohkeofabDoorRows.lean that lists a variable, with what it lists TIED to the program's text (the seventh form; the later family's looks); each row that meets fmt, with fmt's text TOLD by the authors' own Lean function (tested against real Go, not proved from fmt's source: count such statements apart). THE CARD IS WHAT COUNTS. Prove the row's statement (the work); the ties are given (YtpdiladohkeofabDoorTie.lean); close each card by the builder's one call (the guide's Derived/Test/ToyasCard.lean, 'card_holds'). Laid BY PROGRAM, IN A SANDBOX (cutbox-door.mjs). By AI agents, Wed Nov 11 2026. No macro, syntax, notation, axiom, sorry.
-/
import Derived.Test.YtpdiladohkeofabDoorRows
import GoSem.ClaimSeven
namespace Go.Proofs.YtpdiladohkeofabDoor
namespace Rows

/-- THE TIED CARD OF 'laws.FnExactStreamPart'. -/
def fnExactStreamPartCard : Claim7 := { stood := { row := fnExactStreamPartRow, standIns := [], harness := (true, "61e40f62db7be7830e9bbe40a5e8e13a8adbd89ed6ad0ea81aaec5dab78f1740"), looks := false }, kinds := [], alts := [], laidByText := true, laidKinds := [.data], laidTests := true, laidLooks := .later }
def FnExactStreamPartCardSaid : Prop := Claim7.holds Tryd.pinned (.plain (OpenSpec.ofChange fnExactStreamPartSpec)) fnExactStreamPartCard

/-- THE SECOND FORM's CARD OF 'laws.FnExactStreamPart'. -/
def fnExactStreamPartUptoCard : Claim7 := { stood := { row := fnExactStreamPartUptoRow, standIns := [], harness := (true, "61e40f62db7be7830e9bbe40a5e8e13a8adbd89ed6ad0ea81aaec5dab78f1740"), looks := false }, kinds := [], alts := [], laidByText := true, laidKinds := [.data], laidTests := true, laidLooks := .later }
def FnExactStreamPartUptoCardSaid : Prop := Claim7.holds Tryd.pinned (.plain (OpenSpec.upto fnExactStreamPartSpec)) fnExactStreamPartUptoCard
end Rows
end Go.Proofs.YtpdiladohkeofabDoor
