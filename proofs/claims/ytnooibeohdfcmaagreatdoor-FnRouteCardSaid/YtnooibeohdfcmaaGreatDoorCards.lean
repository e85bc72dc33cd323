/-
  DERIVED. GIVEN WITH THE SEED: THE CARDS: each row of YtnooibeohdfcmaaGreatDoorRows.lean that lists a variable, with what it lists TIED to the program's text (the seventh form; the later family's looks); each row that meets fmt, with fmt's text TOLD by the authors' own Lean function (tested against real Go, not proved from fmt's source: count such statements apart). THE CARD IS WHAT COUNTS. Prove the row's statement (the work); the ties are given (YtnooibeohdfcmaaGreatDoorTie.lean); close each card by the builder's one call (the guide's Derived/Test/ToyasCard.lean, 'card_holds'). Laid BY PROGRAM, IN A SANDBOX (cutbox-door.mjs). By AI agents, Wed Nov 11 2026. No macro, syntax, notation, axiom, sorry.
-/
import Derived.Test.YtnooibeohdfcmaaGreatDoorRows
import GoSem.ClaimSeven
namespace Go.Proofs.YtnooibeohdfcmaaGreatDoor
namespace Rows

/-- THE TIED CARD OF 'laws.FnRoute'. -/
def fnRouteCard : Claim7 := { stood := { row := fnRouteRow, standIns := [], harness := (true, "df2736f5eba33cd5ded08c8add2c2e7a373d98331275abd5c752fe983db6c07d"), looks := true }, kinds := [], alts := [], laidByText := true, laidKinds := [.data, .pinned], laidTests := true, laidLooks := .later }
def FnRouteCardSaid : Prop := Claim7.holds Tryz.pinned (.plain (OpenSpec.ofChange fnRouteSpec)) fnRouteCard

/-- THE SECOND FORM's CARD OF 'laws.FnRoute'. -/
def fnRouteUptoCard : Claim7 := { stood := { row := fnRouteUptoRow, standIns := [], harness := (true, "df2736f5eba33cd5ded08c8add2c2e7a373d98331275abd5c752fe983db6c07d"), looks := true }, kinds := [], alts := [], laidByText := true, laidKinds := [.data, .pinned], laidTests := true, laidLooks := .later }
def FnRouteUptoCardSaid : Prop := Claim7.holds Tryz.pinned (.plain (OpenSpec.upto fnRouteSpec)) fnRouteUptoCard
end Rows
end Go.Proofs.YtnooibeohdfcmaaGreatDoor
