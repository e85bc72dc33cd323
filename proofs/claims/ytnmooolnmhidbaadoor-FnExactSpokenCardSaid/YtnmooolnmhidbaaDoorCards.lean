/-
  DERIVED. GIVEN WITH THE SEED: THE CARDS: each row of YtnmooolnmhidbaaDoorRows.lean that lists a variable, with what it lists TIED to the program's text (the seventh form; the later family's looks); each row that meets fmt, with fmt's text TOLD by the authors' own Lean function (tested against real Go, not proved from fmt's source: count such statements apart). THE CARD IS WHAT COUNTS. Prove the row's statement (the work); the ties are given (YtnmooolnmhidbaaDoorTie.lean); close each card by the builder's one call (the guide's Derived/Test/ToyasCard.lean, 'card_holds'). Laid BY PROGRAM, IN A SANDBOX (cutbox-door.mjs). By AI agents, Wed Nov 11 2026. No macro, syntax, notation, axiom, sorry.
-/
import Derived.Test.YtnmooolnmhidbaaDoorRows
import GoSem.ClaimSeven
namespace Go.Proofs.YtnmooolnmhidbaaDoor
namespace Rows

/-- THE TIED CARD OF 'laws.FnExactMethodOk'. -/
def fnExactMethodOkCard : Claim7 := { stood := { row := fnExactMethodOkRow, standIns := [], harness := (true, "8e48988899ded1e5e68d85a3cef63bae6fdb01e19c33ab4b1ec2ec38b8185e62"), looks := false }, kinds := [], alts := [], laidByText := true, laidKinds := [.data, .data, .data], laidTests := true, laidLooks := .later }
def FnExactMethodOkCardSaid : Prop := Claim7.holds Tryd.pinned (.plain (OpenSpec.ofChange fnExactMethodOkSpec)) fnExactMethodOkCard

/-- THE TIED CARD OF 'laws.FnExactPutMethod'. -/
def fnExactPutMethodCard : Claim7 := { stood := { row := fnExactPutMethodRow, standIns := [], harness := (true, "8e48988899ded1e5e68d85a3cef63bae6fdb01e19c33ab4b1ec2ec38b8185e62"), looks := false }, kinds := [], alts := [], laidByText := true, laidKinds := [.data, .data, .data], laidTests := true, laidLooks := .later }
def FnExactPutMethodCardSaid : Prop := Claim7.holds Tryd.pinned (.plain (OpenSpec.ofChange fnExactPutMethodSpec)) fnExactPutMethodCard

/-- THE TIED CARD OF 'laws.FnExactGetMethod'. -/
def fnExactGetMethodCard : Claim7 := { stood := { row := fnExactGetMethodRow, standIns := [], harness := (true, "8e48988899ded1e5e68d85a3cef63bae6fdb01e19c33ab4b1ec2ec38b8185e62"), looks := false }, kinds := [], alts := [], laidByText := true, laidKinds := [.data, .data, .data], laidTests := true, laidLooks := .later }
def FnExactGetMethodCardSaid : Prop := Claim7.holds Tryd.pinned (.plain (OpenSpec.ofChange fnExactGetMethodSpec)) fnExactGetMethodCard

/-- THE TIED CARD OF 'laws.FnExactSay'. -/
def fnExactSayCard : Claim7 := { stood := { row := fnExactSayRow, standIns := [], harness := (true, "8e48988899ded1e5e68d85a3cef63bae6fdb01e19c33ab4b1ec2ec38b8185e62"), looks := false }, kinds := [], alts := [], laidByText := true, laidKinds := [.data, .data, .data], laidTests := true, laidLooks := .later }
def FnExactSayCardSaid : Prop := Claim7.holds Tryd.pinned (.plain (OpenSpec.ofChange fnExactSaySpec)) fnExactSayCard

/-- THE TIED CARD OF 'laws.FnExactSpoken'. -/
def fnExactSpokenCard : Claim7 := { stood := { row := fnExactSpokenRow, standIns := [], harness := (true, "8e48988899ded1e5e68d85a3cef63bae6fdb01e19c33ab4b1ec2ec38b8185e62"), looks := false }, kinds := [], alts := [], laidByText := true, laidKinds := [.data, .data, .data], laidTests := true, laidLooks := .later }
def FnExactSpokenCardSaid : Prop := Claim7.holds Tryd.pinned (.plain (OpenSpec.ofChange fnExactSpokenSpec)) fnExactSpokenCard

/-- THE SECOND FORM's CARD OF 'laws.FnExactMethodOk'. -/
def fnExactMethodOkUptoCard : Claim7 := { stood := { row := fnExactMethodOkUptoRow, standIns := [], harness := (true, "8e48988899ded1e5e68d85a3cef63bae6fdb01e19c33ab4b1ec2ec38b8185e62"), looks := false }, kinds := [], alts := [], laidByText := true, laidKinds := [.data, .data, .data], laidTests := true, laidLooks := .later }
def FnExactMethodOkUptoCardSaid : Prop := Claim7.holds Tryd.pinned (.plain (OpenSpec.upto fnExactMethodOkSpec)) fnExactMethodOkUptoCard

/-- THE SECOND FORM's CARD OF 'laws.FnExactPutMethod'. -/
def fnExactPutMethodUptoCard : Claim7 := { stood := { row := fnExactPutMethodUptoRow, standIns := [], harness := (true, "8e48988899ded1e5e68d85a3cef63bae6fdb01e19c33ab4b1ec2ec38b8185e62"), looks := false }, kinds := [], alts := [], laidByText := true, laidKinds := [.data, .data, .data], laidTests := true, laidLooks := .later }
def FnExactPutMethodUptoCardSaid : Prop := Claim7.holds Tryd.pinned (.plain (OpenSpec.upto fnExactPutMethodSpec)) fnExactPutMethodUptoCard

/-- THE SECOND FORM's CARD OF 'laws.FnExactGetMethod'. -/
def fnExactGetMethodUptoCard : Claim7 := { stood := { row := fnExactGetMethodUptoRow, standIns := [], harness := (true, "8e48988899ded1e5e68d85a3cef63bae6fdb01e19c33ab4b1ec2ec38b8185e62"), looks := false }, kinds := [], alts := [], laidByText := true, laidKinds := [.data, .data, .data], laidTests := true, laidLooks := .later }
def FnExactGetMethodUptoCardSaid : Prop := Claim7.holds Tryd.pinned (.plain (OpenSpec.upto fnExactGetMethodSpec)) fnExactGetMethodUptoCard

/-- THE SECOND FORM's CARD OF 'laws.FnExactSay'. -/
def fnExactSayUptoCard : Claim7 := { stood := { row := fnExactSayUptoRow, standIns := [], harness := (true, "8e48988899ded1e5e68d85a3cef63bae6fdb01e19c33ab4b1ec2ec38b8185e62"), looks := false }, kinds := [], alts := [], laidByText := true, laidKinds := [.data, .data, .data], laidTests := true, laidLooks := .later }
def FnExactSayUptoCardSaid : Prop := Claim7.holds Tryd.pinned (.plain (OpenSpec.upto fnExactSaySpec)) fnExactSayUptoCard

/-- THE SECOND FORM's CARD OF 'laws.FnExactSpoken'. -/
def fnExactSpokenUptoCard : Claim7 := { stood := { row := fnExactSpokenUptoRow, standIns := [], harness := (true, "8e48988899ded1e5e68d85a3cef63bae6fdb01e19c33ab4b1ec2ec38b8185e62"), looks := false }, kinds := [], alts := [], laidByText := true, laidKinds := [.data, .data, .data], laidTests := true, laidLooks := .later }
def FnExactSpokenUptoCardSaid : Prop := Claim7.holds Tryd.pinned (.plain (OpenSpec.upto fnExactSpokenSpec)) fnExactSpokenUptoCard
end Rows
end Go.Proofs.YtnmooolnmhidbaaDoor
