/-
  DERIVED. GIVEN WITH THE SEED: THE CARDS: each row of YtkkihjmjeijkhafDoorRows.lean that lists a variable, with what it lists TIED to the program's text (the seventh form; the later family's looks); each row that meets fmt, with fmt's text TOLD by the authors' own Lean function (tested against real Go, not proved from fmt's source: count such statements apart). THE CARD IS WHAT COUNTS. Prove the row's statement (the work); the ties are given (YtkkihjmjeijkhafDoorTie.lean); close each card by the builder's one call (the guide's Derived/Test/ToyasCard.lean, 'card_holds'). Laid BY PROGRAM, IN A SANDBOX (cutbox-door.mjs). By AI agents, Wed Nov 11 2026. No macro, syntax, notation, axiom, sorry.
-/
import Derived.Test.YtkkihjmjeijkhafDoorRows
import GoSem.ClaimSeven
namespace Go.Proofs.YtkkihjmjeijkhafDoor
namespace Rows

/-- THE TIED CARD OF 'laws.FnExactCheckSum'. -/
def fnExactCheckSumCard : Claim7 := { stood := { row := fnExactCheckSumRow, standIns := [], harness := (true, "f4284313825169e943dd9efd217eb126bcfd41b8652c52f7aaa23a9eacc317ed"), looks := false }, kinds := [], alts := [], laidByText := true, laidKinds := [.data], laidTests := true, laidLooks := .later }
def FnExactCheckSumCardSaid : Prop := Claim7.holds Tryd.pinned (.plain (OpenSpec.ofChange fnExactCheckSumSpec)) fnExactCheckSumCard

/-- THE TIED CARD OF 'laws.FnExactDecText'. -/
def fnExactDecTextCard : Claim7 := { stood := { row := fnExactDecTextRow, standIns := [], harness := (true, "f4284313825169e943dd9efd217eb126bcfd41b8652c52f7aaa23a9eacc317ed"), looks := false }, kinds := [], alts := [], laidByText := true, laidKinds := [.data, .data, .data], laidTests := true, laidLooks := .later }
def FnExactDecTextCardSaid : Prop := Claim7.holds Tryd.pinned (.plain (OpenSpec.ofChange fnExactDecTextSpec)) fnExactDecTextCard

/-- THE SECOND FORM's CARD OF 'laws.FnExactCheckSum'. -/
def fnExactCheckSumUptoCard : Claim7 := { stood := { row := fnExactCheckSumUptoRow, standIns := [], harness := (true, "f4284313825169e943dd9efd217eb126bcfd41b8652c52f7aaa23a9eacc317ed"), looks := false }, kinds := [], alts := [], laidByText := true, laidKinds := [.data], laidTests := true, laidLooks := .later }
def FnExactCheckSumUptoCardSaid : Prop := Claim7.holds Tryd.pinned (.plain (OpenSpec.upto fnExactCheckSumSpec)) fnExactCheckSumUptoCard

/-- THE SECOND FORM's CARD OF 'laws.FnExactDecText'. -/
def fnExactDecTextUptoCard : Claim7 := { stood := { row := fnExactDecTextUptoRow, standIns := [], harness := (true, "f4284313825169e943dd9efd217eb126bcfd41b8652c52f7aaa23a9eacc317ed"), looks := false }, kinds := [], alts := [], laidByText := true, laidKinds := [.data, .data, .data], laidTests := true, laidLooks := .later }
def FnExactDecTextUptoCardSaid : Prop := Claim7.holds Tryd.pinned (.plain (OpenSpec.upto fnExactDecTextSpec)) fnExactDecTextUptoCard
end Rows
end Go.Proofs.YtkkihjmjeijkhafDoor
