/-
  DERIVED. GIVEN WITH THE SEED: THE CARDS: each row of YtfhhcbjieekfdaaDoorRows.lean that lists a variable, with what it lists TIED to the program's text (the seventh form; the later family's looks); each row that meets fmt, with fmt's text TOLD by the authors' own Lean function (tested against real Go, not proved from fmt's source: count such statements apart). THE CARD IS WHAT COUNTS. Prove the row's statement (the work); the ties are given (YtfhhcbjieekfdaaDoorTie.lean); close each card by the builder's one call (the guide's Derived/Test/ToyasCard.lean, 'card_holds'). Laid BY PROGRAM, IN A SANDBOX (cutbox-door.mjs). By AI agents, Wed Nov 11 2026. No macro, syntax, notation, axiom, sorry.
-/
import Derived.Test.YtfhhcbjieekfdaaDoorRows
import GoSem.ClaimSeven
namespace Go.Proofs.YtfhhcbjieekfdaaDoor
namespace Rows

/-- THE TIED CARD OF 'laws.FnExactRoute'. -/
def fnExactRouteCard : Claim7 := { stood := { row := fnExactRouteRow, standIns := [], harness := (true, "55245f612eb31686795a82e4fa9265f5779c629a068dbbe6b10fbfdd21598530"), looks := true }, kinds := [], alts := [], laidByText := true, laidKinds := [.data, .pinned], laidTests := true, laidLooks := .later }
def FnExactRouteCardSaid : Prop := Claim7.holds Tryd.pinned (.plain (OpenSpec.ofChange fnExactRouteSpec)) fnExactRouteCard

/-- THE SECOND FORM's CARD OF 'laws.FnExactRoute'. -/
def fnExactRouteUptoCard : Claim7 := { stood := { row := fnExactRouteUptoRow, standIns := [], harness := (true, "55245f612eb31686795a82e4fa9265f5779c629a068dbbe6b10fbfdd21598530"), looks := true }, kinds := [], alts := [], laidByText := true, laidKinds := [.data, .pinned], laidTests := true, laidLooks := .later }
def FnExactRouteUptoCardSaid : Prop := Claim7.holds Tryd.pinned (.plain (OpenSpec.upto fnExactRouteSpec)) fnExactRouteUptoCard
end Rows
end Go.Proofs.YtfhhcbjieekfdaaDoor
