/-
  DERIVED. GIVEN WITH THE SEED: THE CARDS: each row of YtnlgidbocndmfaaDoorRows.lean that lists a variable, with what it lists TIED to the program's text (the seventh form; the later family's looks); each row that meets fmt, with fmt's text TOLD by the authors' own Lean function (tested against real Go, not proved from fmt's source: count such statements apart). THE CARD IS WHAT COUNTS. Prove the row's statement (the work); the ties are given (YtnlgidbocndmfaaDoorTie.lean); close each card by the builder's one call (the guide's Derived/Test/ToyasCard.lean, 'card_holds'). Laid BY PROGRAM, IN A SANDBOX (cutbox-door.mjs). By AI agents, Wed Nov 11 2026. No macro, syntax, notation, axiom, sorry.
-/
import Derived.Test.YtnlgidbocndmfaaDoorRows
import GoSem.ClaimSeven
namespace Go.Proofs.YtnlgidbocndmfaaDoor
namespace Rows

/-- THE TIED CARD OF 'laws.FnExactKeepOk'. -/
def fnExactKeepOkCard : Claim7 := { stood := { row := fnExactKeepOkRow, standIns := [], harness := (true, "85a692b7772f2cef2cf132ed20f98a8999cd9b834434a57f8721254e454889b6"), looks := false }, kinds := [], alts := [], laidByText := true, laidKinds := [.data, .pinned], laidTests := true, laidLooks := .later }
def FnExactKeepOkCardSaid : Prop := Claim7.holds Tryd.pinned (.plain (OpenSpec.ofChange fnExactKeepOkSpec)) fnExactKeepOkCard

/-- THE TIED CARD OF 'laws.FnExactKept'. -/
def fnExactKeptCard : Claim7 := { stood := { row := fnExactKeptRow, standIns := [], harness := (true, "85a692b7772f2cef2cf132ed20f98a8999cd9b834434a57f8721254e454889b6"), looks := false }, kinds := [], alts := [], laidByText := true, laidKinds := [.data, .pinned], laidTests := true, laidLooks := .later }
def FnExactKeptCardSaid : Prop := Claim7.holds Tryd.pinned (.plain (OpenSpec.ofChange fnExactKeptSpec)) fnExactKeptCard

/-- THE TIED CARD OF 'laws.FnExactKeptFor'. -/
def fnExactKeptForCard : Claim7 := { stood := { row := fnExactKeptForRow, standIns := [], harness := (true, "85a692b7772f2cef2cf132ed20f98a8999cd9b834434a57f8721254e454889b6"), looks := false }, kinds := [], alts := [], laidByText := true, laidKinds := [.data, .pinned], laidTests := true, laidLooks := .later }
def FnExactKeptForCardSaid : Prop := Claim7.holds Tryd.pinned (.plain (OpenSpec.ofChange fnExactKeptForSpec)) fnExactKeptForCard

/-- THE SECOND FORM's CARD OF 'laws.FnExactKeepOk'. -/
def fnExactKeepOkUptoCard : Claim7 := { stood := { row := fnExactKeepOkUptoRow, standIns := [], harness := (true, "85a692b7772f2cef2cf132ed20f98a8999cd9b834434a57f8721254e454889b6"), looks := false }, kinds := [], alts := [], laidByText := true, laidKinds := [.data, .pinned], laidTests := true, laidLooks := .later }
def FnExactKeepOkUptoCardSaid : Prop := Claim7.holds Tryd.pinned (.plain (OpenSpec.upto fnExactKeepOkSpec)) fnExactKeepOkUptoCard

/-- THE SECOND FORM's CARD OF 'laws.FnExactKept'. -/
def fnExactKeptUptoCard : Claim7 := { stood := { row := fnExactKeptUptoRow, standIns := [], harness := (true, "85a692b7772f2cef2cf132ed20f98a8999cd9b834434a57f8721254e454889b6"), looks := false }, kinds := [], alts := [], laidByText := true, laidKinds := [.data, .pinned], laidTests := true, laidLooks := .later }
def FnExactKeptUptoCardSaid : Prop := Claim7.holds Tryd.pinned (.plain (OpenSpec.upto fnExactKeptSpec)) fnExactKeptUptoCard

/-- THE SECOND FORM's CARD OF 'laws.FnExactKeptFor'. -/
def fnExactKeptForUptoCard : Claim7 := { stood := { row := fnExactKeptForUptoRow, standIns := [], harness := (true, "85a692b7772f2cef2cf132ed20f98a8999cd9b834434a57f8721254e454889b6"), looks := false }, kinds := [], alts := [], laidByText := true, laidKinds := [.data, .pinned], laidTests := true, laidLooks := .later }
def FnExactKeptForUptoCardSaid : Prop := Claim7.holds Tryd.pinned (.plain (OpenSpec.upto fnExactKeptForSpec)) fnExactKeptForUptoCard
end Rows
end Go.Proofs.YtnlgidbocndmfaaDoor
