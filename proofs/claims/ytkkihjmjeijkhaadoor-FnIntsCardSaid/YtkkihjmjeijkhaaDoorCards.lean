/-
  DERIVED. GIVEN WITH THE SEED: THE CARDS: each row of YtkkihjmjeijkhaaDoorRows.lean that lists a variable, with what it lists TIED to the program's text (the seventh form; the later family's looks); each row that meets fmt, with fmt's text TOLD by the authors' own Lean function (tested against real Go, not proved from fmt's source: count such statements apart). THE CARD IS WHAT COUNTS. Prove the row's statement (the work); the ties are given (YtkkihjmjeijkhaaDoorTie.lean); close each card by the builder's one call (the guide's Derived/Test/ToyasCard.lean, 'card_holds'). Laid BY PROGRAM, IN A SANDBOX (cutbox-door.mjs). By AI agents, Wed Nov 11 2026. No macro, syntax, notation, axiom, sorry.
-/
import Derived.Test.YtkkihjmjeijkhaaDoorRows
import GoSem.ClaimSeven
namespace Go.Proofs.YtkkihjmjeijkhaaDoor
namespace Rows

/-- THE TIED CARD OF 'laws.FnInts'. -/
def fnIntsCard : Claim7 := { stood := { row := fnIntsRow, standIns := [], harness := (true, "74962132bf98d7572b8a8da38e40675a2c712c12a510e55de13aabd9606e9599"), looks := true }, kinds := [], alts := [], laidByText := true, laidKinds := [.data, .data, .data, .sentinel, .sentinel], laidTests := true, laidLooks := .later }
def FnIntsCardSaid : Prop := Claim7.holds Tryd.pinned (.plain (OpenSpec.ofChange fnIntsSpec)) fnIntsCard

/-- THE TIED CARD OF 'laws.FnStrings'. -/
def fnStringsCard : Claim7 := { stood := { row := fnStringsRow, standIns := [], harness := (true, "74962132bf98d7572b8a8da38e40675a2c712c12a510e55de13aabd9606e9599"), looks := true }, kinds := [], alts := [], laidByText := true, laidKinds := [.data], laidTests := true, laidLooks := .later }
def FnStringsCardSaid : Prop := Claim7.holds Tryd.pinned (.plain (OpenSpec.ofChange fnStringsSpec)) fnStringsCard

/-- THE SECOND FORM's CARD OF 'laws.FnInts'. -/
def fnIntsUptoCard : Claim7 := { stood := { row := fnIntsUptoRow, standIns := [], harness := (true, "74962132bf98d7572b8a8da38e40675a2c712c12a510e55de13aabd9606e9599"), looks := true }, kinds := [], alts := [], laidByText := true, laidKinds := [.data, .data, .data, .sentinel, .sentinel], laidTests := true, laidLooks := .later }
def FnIntsUptoCardSaid : Prop := Claim7.holds Tryd.pinned (.plain (OpenSpec.upto fnIntsSpec)) fnIntsUptoCard

/-- THE SECOND FORM's CARD OF 'laws.FnStrings'. -/
def fnStringsUptoCard : Claim7 := { stood := { row := fnStringsUptoRow, standIns := [], harness := (true, "74962132bf98d7572b8a8da38e40675a2c712c12a510e55de13aabd9606e9599"), looks := true }, kinds := [], alts := [], laidByText := true, laidKinds := [.data], laidTests := true, laidLooks := .later }
def FnStringsUptoCardSaid : Prop := Claim7.holds Tryd.pinned (.plain (OpenSpec.upto fnStringsSpec)) fnStringsUptoCard
end Rows
end Go.Proofs.YtkkihjmjeijkhaaDoor
