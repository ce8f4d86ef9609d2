/-
  DERIVED. GIVEN WITH THE SEED: THE CARDS: each row of YtmfbffhbgelnnaaGreatDoorRows.lean that lists a variable, with what it lists TIED to the program's text (the seventh form; the later family's looks); each row that meets fmt, with fmt's text TOLD by the authors' own Lean function (tested against real Go, not proved from fmt's source: count such statements apart). THE CARD IS WHAT COUNTS. Prove the row's statement (the work); the ties are given (YtmfbffhbgelnnaaGreatDoorTie.lean); close each card by the builder's one call (the guide's Derived/Test/ToyasCard.lean, 'card_holds'). Laid BY PROGRAM, IN A SANDBOX (cutbox-door.mjs). By AI agents, Wed Nov 11 2026. No macro, syntax, notation, axiom, sorry.
-/
import Derived.Test.YtmfbffhbgelnnaaGreatDoorRows
import GoSem.ClaimSeven
namespace Go.Proofs.YtmfbffhbgelnnaaGreatDoor
namespace Rows

/-- THE TIED CARD OF 'laws.FnExactBrokerOk'. -/
def fnExactBrokerOkCard : Claim7 := { stood := { row := fnExactBrokerOkRow, standIns := [], harness := (true, "62aa9faa348d901cd1402cd5e7016d98ba44501d60c2a6fd7d0f41177065daa8"), looks := false }, kinds := [], alts := [], laidByText := true, laidKinds := [.data, .pinned], laidTests := true, laidLooks := .later }
def FnExactBrokerOkCardSaid : Prop := Claim7.holds Tryz.pinned (.plain (OpenSpec.ofChange fnExactBrokerOkSpec)) fnExactBrokerOkCard

/-- THE TIED CARD OF 'laws.FnExactNewBroker'. -/
def fnExactNewBrokerCard : Claim7 := { stood := { row := fnExactNewBrokerRow, standIns := [], harness := (true, "62aa9faa348d901cd1402cd5e7016d98ba44501d60c2a6fd7d0f41177065daa8"), looks := false }, kinds := [], alts := [], laidByText := true, laidKinds := [.data, .pinned], laidTests := true, laidLooks := .later }
def FnExactNewBrokerCardSaid : Prop := Claim7.holds Tryz.pinned (.plain (OpenSpec.ofChange fnExactNewBrokerSpec)) fnExactNewBrokerCard

/-- THE TIED CARD OF 'laws.FnExactTargetsOf'. -/
def fnExactTargetsOfCard : Claim7 := { stood := { row := fnExactTargetsOfRow, standIns := [], harness := (true, "62aa9faa348d901cd1402cd5e7016d98ba44501d60c2a6fd7d0f41177065daa8"), looks := false }, kinds := [], alts := [], laidByText := true, laidKinds := [.data, .pinned], laidTests := true, laidLooks := .later }
def FnExactTargetsOfCardSaid : Prop := Claim7.holds Tryz.pinned (.plain (OpenSpec.ofChange fnExactTargetsOfSpec)) fnExactTargetsOfCard

/-- THE TIED CARD OF 'laws.FnExactLiveIn'. -/
def fnExactLiveInCard : Claim7 := { stood := { row := fnExactLiveInRow, standIns := [], harness := (true, "62aa9faa348d901cd1402cd5e7016d98ba44501d60c2a6fd7d0f41177065daa8"), looks := false }, kinds := [], alts := [], laidByText := true, laidKinds := [.data, .pinned], laidTests := true, laidLooks := .later }
def FnExactLiveInCardSaid : Prop := Claim7.holds Tryz.pinned (.plain (OpenSpec.ofChange fnExactLiveInSpec)) fnExactLiveInCard

/-- THE SECOND FORM's CARD OF 'laws.FnExactBrokerOk'. -/
def fnExactBrokerOkUptoCard : Claim7 := { stood := { row := fnExactBrokerOkUptoRow, standIns := [], harness := (true, "62aa9faa348d901cd1402cd5e7016d98ba44501d60c2a6fd7d0f41177065daa8"), looks := false }, kinds := [], alts := [], laidByText := true, laidKinds := [.data, .pinned], laidTests := true, laidLooks := .later }
def FnExactBrokerOkUptoCardSaid : Prop := Claim7.holds Tryz.pinned (.plain (OpenSpec.upto fnExactBrokerOkSpec)) fnExactBrokerOkUptoCard

/-- THE SECOND FORM's CARD OF 'laws.FnExactNewBroker'. -/
def fnExactNewBrokerUptoCard : Claim7 := { stood := { row := fnExactNewBrokerUptoRow, standIns := [], harness := (true, "62aa9faa348d901cd1402cd5e7016d98ba44501d60c2a6fd7d0f41177065daa8"), looks := false }, kinds := [], alts := [], laidByText := true, laidKinds := [.data, .pinned], laidTests := true, laidLooks := .later }
def FnExactNewBrokerUptoCardSaid : Prop := Claim7.holds Tryz.pinned (.plain (OpenSpec.upto fnExactNewBrokerSpec)) fnExactNewBrokerUptoCard

/-- THE SECOND FORM's CARD OF 'laws.FnExactTargetsOf'. -/
def fnExactTargetsOfUptoCard : Claim7 := { stood := { row := fnExactTargetsOfUptoRow, standIns := [], harness := (true, "62aa9faa348d901cd1402cd5e7016d98ba44501d60c2a6fd7d0f41177065daa8"), looks := false }, kinds := [], alts := [], laidByText := true, laidKinds := [.data, .pinned], laidTests := true, laidLooks := .later }
def FnExactTargetsOfUptoCardSaid : Prop := Claim7.holds Tryz.pinned (.plain (OpenSpec.upto fnExactTargetsOfSpec)) fnExactTargetsOfUptoCard

/-- THE SECOND FORM's CARD OF 'laws.FnExactLiveIn'. -/
def fnExactLiveInUptoCard : Claim7 := { stood := { row := fnExactLiveInUptoRow, standIns := [], harness := (true, "62aa9faa348d901cd1402cd5e7016d98ba44501d60c2a6fd7d0f41177065daa8"), looks := false }, kinds := [], alts := [], laidByText := true, laidKinds := [.data, .pinned], laidTests := true, laidLooks := .later }
def FnExactLiveInUptoCardSaid : Prop := Claim7.holds Tryz.pinned (.plain (OpenSpec.upto fnExactLiveInSpec)) fnExactLiveInUptoCard
end Rows
end Go.Proofs.YtmfbffhbgelnnaaGreatDoor
