/-
  DERIVED. GIVEN WITH THE SEED: THE CARDS: each row of YtipjhlfajefefaaDoorRows.lean that lists a variable, with what it lists TIED to the program's text (the seventh form; the later family's looks); each row that meets fmt, with fmt's text TOLD by the authors' own Lean function (tested against real Go, not proved from fmt's source: count such statements apart). THE CARD IS WHAT COUNTS. Prove the row's statement (the work); the ties are given (YtipjhlfajefefaaDoorTie.lean); close each card by the builder's one call (the guide's Derived/Test/ToyasCard.lean, 'card_holds'). Laid BY PROGRAM, IN A SANDBOX (cutbox-door.mjs). By AI agents, Wed Nov 11 2026. No macro, syntax, notation, axiom, sorry.
-/
import Derived.Test.YtipjhlfajefefaaDoorRows
import GoSem.ClaimSeven
namespace Go.Proofs.YtipjhlfajefefaaDoor
namespace Rows

/-- THE TIED CARD OF 'laws.FnMethods'. -/
def fnMethodsCard : Claim7 := { stood := { row := fnMethodsRow, standIns := [], harness := (true, "9ff9708855158257bee353978a80f16bf2c75da76fba910f3ee65533785824d1"), looks := true }, kinds := [], alts := [], laidByText := true, laidKinds := [.data, .data, .data], laidTests := true, laidLooks := .later }
def FnMethodsCardSaid : Prop := Claim7.holds Tryd.pinned (.plain (OpenSpec.ofChange fnMethodsSpec)) fnMethodsCard

/-- THE TIED CARD OF 'laws.FnTopic'. -/
def fnTopicCard : Claim7 := { stood := { row := fnTopicRow, standIns := [], harness := (true, "9ff9708855158257bee353978a80f16bf2c75da76fba910f3ee65533785824d1"), looks := true }, kinds := [], alts := [], laidByText := true, laidKinds := [.data, .pinned], laidTests := true, laidLooks := .later }
def FnTopicCardSaid : Prop := Claim7.holds Tryd.pinned (.plain (OpenSpec.ofChange fnTopicSpec)) fnTopicCard

/-- THE TIED CARD OF 'laws.FnExactMethodOk'. -/
def fnExactMethodOkCard : Claim7 := { stood := { row := fnExactMethodOkRow, standIns := [], harness := (true, "9ff9708855158257bee353978a80f16bf2c75da76fba910f3ee65533785824d1"), looks := true }, kinds := [], alts := [], laidByText := true, laidKinds := [.data, .data, .data], laidTests := true, laidLooks := .later }
def FnExactMethodOkCardSaid : Prop := Claim7.holds Tryd.pinned (.plain (OpenSpec.ofChange fnExactMethodOkSpec)) fnExactMethodOkCard

/-- THE TIED CARD OF 'laws.FnExactPutMethod'. -/
def fnExactPutMethodCard : Claim7 := { stood := { row := fnExactPutMethodRow, standIns := [], harness := (true, "9ff9708855158257bee353978a80f16bf2c75da76fba910f3ee65533785824d1"), looks := true }, kinds := [], alts := [], laidByText := true, laidKinds := [.data, .data, .data], laidTests := true, laidLooks := .later }
def FnExactPutMethodCardSaid : Prop := Claim7.holds Tryd.pinned (.plain (OpenSpec.ofChange fnExactPutMethodSpec)) fnExactPutMethodCard

/-- THE TIED CARD OF 'laws.FnExactGetMethod'. -/
def fnExactGetMethodCard : Claim7 := { stood := { row := fnExactGetMethodRow, standIns := [], harness := (true, "9ff9708855158257bee353978a80f16bf2c75da76fba910f3ee65533785824d1"), looks := true }, kinds := [], alts := [], laidByText := true, laidKinds := [.data, .data, .data], laidTests := true, laidLooks := .later }
def FnExactGetMethodCardSaid : Prop := Claim7.holds Tryd.pinned (.plain (OpenSpec.ofChange fnExactGetMethodSpec)) fnExactGetMethodCard

/-- THE TIED CARD OF 'laws.FnExactMethodText'. -/
def fnExactMethodTextCard : Claim7 := { stood := { row := fnExactMethodTextRow, standIns := [], harness := (true, "9ff9708855158257bee353978a80f16bf2c75da76fba910f3ee65533785824d1"), looks := true }, kinds := [], alts := [], laidByText := true, laidKinds := [.data, .data, .data], laidTests := true, laidLooks := .later }
def FnExactMethodTextCardSaid : Prop := Claim7.holds Tryd.pinned (.plain (OpenSpec.ofChange fnExactMethodTextSpec)) fnExactMethodTextCard

/-- THE TIED CARD OF 'laws.FnExactSay'. -/
def fnExactSayCard : Claim7 := { stood := { row := fnExactSayRow, standIns := [], harness := (true, "9ff9708855158257bee353978a80f16bf2c75da76fba910f3ee65533785824d1"), looks := true }, kinds := [], alts := [], laidByText := true, laidKinds := [.data, .data, .data], laidTests := true, laidLooks := .later }
def FnExactSayCardSaid : Prop := Claim7.holds Tryd.pinned (.plain (OpenSpec.ofChange fnExactSaySpec)) fnExactSayCard

/-- THE TIED CARD OF 'laws.FnExactTopicMatch'. -/
def fnExactTopicMatchCard : Claim7 := { stood := { row := fnExactTopicMatchRow, standIns := [], harness := (true, "9ff9708855158257bee353978a80f16bf2c75da76fba910f3ee65533785824d1"), looks := true }, kinds := [], alts := [], laidByText := true, laidKinds := [.data, .pinned], laidTests := true, laidLooks := .later }
def FnExactTopicMatchCardSaid : Prop := Claim7.holds Tryd.pinned (.plain (OpenSpec.ofChange fnExactTopicMatchSpec)) fnExactTopicMatchCard

/-- THE TIED CARD OF 'laws.FnExactRoute'. -/
def fnExactRouteCard : Claim7 := { stood := { row := fnExactRouteRow, standIns := [], harness := (true, "9ff9708855158257bee353978a80f16bf2c75da76fba910f3ee65533785824d1"), looks := true }, kinds := [], alts := [], laidByText := true, laidKinds := [.data, .pinned], laidTests := true, laidLooks := .later }
def FnExactRouteCardSaid : Prop := Claim7.holds Tryd.pinned (.plain (OpenSpec.ofChange fnExactRouteSpec)) fnExactRouteCard

/-- THE SECOND FORM's CARD OF 'laws.FnMethods'. -/
def fnMethodsUptoCard : Claim7 := { stood := { row := fnMethodsUptoRow, standIns := [], harness := (true, "9ff9708855158257bee353978a80f16bf2c75da76fba910f3ee65533785824d1"), looks := true }, kinds := [], alts := [], laidByText := true, laidKinds := [.data, .data, .data], laidTests := true, laidLooks := .later }
def FnMethodsUptoCardSaid : Prop := Claim7.holds Tryd.pinned (.plain (OpenSpec.upto fnMethodsSpec)) fnMethodsUptoCard

/-- THE SECOND FORM's CARD OF 'laws.FnTopic'. -/
def fnTopicUptoCard : Claim7 := { stood := { row := fnTopicUptoRow, standIns := [], harness := (true, "9ff9708855158257bee353978a80f16bf2c75da76fba910f3ee65533785824d1"), looks := true }, kinds := [], alts := [], laidByText := true, laidKinds := [.data, .pinned], laidTests := true, laidLooks := .later }
def FnTopicUptoCardSaid : Prop := Claim7.holds Tryd.pinned (.plain (OpenSpec.upto fnTopicSpec)) fnTopicUptoCard

/-- THE SECOND FORM's CARD OF 'laws.FnExactMethodOk'. -/
def fnExactMethodOkUptoCard : Claim7 := { stood := { row := fnExactMethodOkUptoRow, standIns := [], harness := (true, "9ff9708855158257bee353978a80f16bf2c75da76fba910f3ee65533785824d1"), looks := true }, kinds := [], alts := [], laidByText := true, laidKinds := [.data, .data, .data], laidTests := true, laidLooks := .later }
def FnExactMethodOkUptoCardSaid : Prop := Claim7.holds Tryd.pinned (.plain (OpenSpec.upto fnExactMethodOkSpec)) fnExactMethodOkUptoCard

/-- THE SECOND FORM's CARD OF 'laws.FnExactPutMethod'. -/
def fnExactPutMethodUptoCard : Claim7 := { stood := { row := fnExactPutMethodUptoRow, standIns := [], harness := (true, "9ff9708855158257bee353978a80f16bf2c75da76fba910f3ee65533785824d1"), looks := true }, kinds := [], alts := [], laidByText := true, laidKinds := [.data, .data, .data], laidTests := true, laidLooks := .later }
def FnExactPutMethodUptoCardSaid : Prop := Claim7.holds Tryd.pinned (.plain (OpenSpec.upto fnExactPutMethodSpec)) fnExactPutMethodUptoCard

/-- THE SECOND FORM's CARD OF 'laws.FnExactGetMethod'. -/
def fnExactGetMethodUptoCard : Claim7 := { stood := { row := fnExactGetMethodUptoRow, standIns := [], harness := (true, "9ff9708855158257bee353978a80f16bf2c75da76fba910f3ee65533785824d1"), looks := true }, kinds := [], alts := [], laidByText := true, laidKinds := [.data, .data, .data], laidTests := true, laidLooks := .later }
def FnExactGetMethodUptoCardSaid : Prop := Claim7.holds Tryd.pinned (.plain (OpenSpec.upto fnExactGetMethodSpec)) fnExactGetMethodUptoCard

/-- THE SECOND FORM's CARD OF 'laws.FnExactMethodText'. -/
def fnExactMethodTextUptoCard : Claim7 := { stood := { row := fnExactMethodTextUptoRow, standIns := [], harness := (true, "9ff9708855158257bee353978a80f16bf2c75da76fba910f3ee65533785824d1"), looks := true }, kinds := [], alts := [], laidByText := true, laidKinds := [.data, .data, .data], laidTests := true, laidLooks := .later }
def FnExactMethodTextUptoCardSaid : Prop := Claim7.holds Tryd.pinned (.plain (OpenSpec.upto fnExactMethodTextSpec)) fnExactMethodTextUptoCard

/-- THE SECOND FORM's CARD OF 'laws.FnExactSay'. -/
def fnExactSayUptoCard : Claim7 := { stood := { row := fnExactSayUptoRow, standIns := [], harness := (true, "9ff9708855158257bee353978a80f16bf2c75da76fba910f3ee65533785824d1"), looks := true }, kinds := [], alts := [], laidByText := true, laidKinds := [.data, .data, .data], laidTests := true, laidLooks := .later }
def FnExactSayUptoCardSaid : Prop := Claim7.holds Tryd.pinned (.plain (OpenSpec.upto fnExactSaySpec)) fnExactSayUptoCard

/-- THE SECOND FORM's CARD OF 'laws.FnExactTopicMatch'. -/
def fnExactTopicMatchUptoCard : Claim7 := { stood := { row := fnExactTopicMatchUptoRow, standIns := [], harness := (true, "9ff9708855158257bee353978a80f16bf2c75da76fba910f3ee65533785824d1"), looks := true }, kinds := [], alts := [], laidByText := true, laidKinds := [.data, .pinned], laidTests := true, laidLooks := .later }
def FnExactTopicMatchUptoCardSaid : Prop := Claim7.holds Tryd.pinned (.plain (OpenSpec.upto fnExactTopicMatchSpec)) fnExactTopicMatchUptoCard

/-- THE SECOND FORM's CARD OF 'laws.FnExactRoute'. -/
def fnExactRouteUptoCard : Claim7 := { stood := { row := fnExactRouteUptoRow, standIns := [], harness := (true, "9ff9708855158257bee353978a80f16bf2c75da76fba910f3ee65533785824d1"), looks := true }, kinds := [], alts := [], laidByText := true, laidKinds := [.data, .pinned], laidTests := true, laidLooks := .later }
def FnExactRouteUptoCardSaid : Prop := Claim7.holds Tryd.pinned (.plain (OpenSpec.upto fnExactRouteSpec)) fnExactRouteUptoCard
end Rows
end Go.Proofs.YtipjhlfajefefaaDoor
