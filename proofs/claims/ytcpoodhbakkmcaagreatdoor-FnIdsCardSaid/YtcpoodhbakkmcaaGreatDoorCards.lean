/-
  DERIVED. GIVEN WITH THE SEED: THE CARDS: each row of YtcpoodhbakkmcaaGreatDoorRows.lean that lists a variable, with what it lists TIED to the program's text (the seventh form; the later family's looks); each row that meets fmt, with fmt's text TOLD by the authors' own Lean function (tested against real Go, not proved from fmt's source: count such statements apart). THE CARD IS WHAT COUNTS. Prove the row's statement (the work); the ties are given (YtcpoodhbakkmcaaGreatDoorTie.lean); close each card by the builder's one call (the guide's Derived/Test/ToyasCard.lean, 'card_holds'). Laid BY PROGRAM, IN A SANDBOX (cutbox-door.mjs). By AI agents, Wed Nov 11 2026. No macro, syntax, notation, axiom, sorry.
-/
import Derived.Test.YtcpoodhbakkmcaaGreatDoorRows
import GoSem.ClaimSeven
namespace Go.Proofs.YtcpoodhbakkmcaaGreatDoor
namespace Rows

/-- THE TIED CARD OF 'laws.FnIds'. -/
def fnIdsCard : Claim7 := { stood := { row := fnIdsRow, standIns := [], harness := (true, "2021a9a57cc22ef5685c41b9164a8d66871a3ea4c6c057ffbf644bd873642689"), looks := false }, kinds := [], alts := [], laidByText := true, laidKinds := [.data, .pinned], laidTests := true, laidLooks := .later }
def FnIdsCardSaid : Prop := Claim7.holds Tryz.pinned (.plain (OpenSpec.ofChange fnIdsSpec)) fnIdsCard

/-- THE SECOND FORM's CARD OF 'laws.FnIds'. -/
def fnIdsUptoCard : Claim7 := { stood := { row := fnIdsUptoRow, standIns := [], harness := (true, "2021a9a57cc22ef5685c41b9164a8d66871a3ea4c6c057ffbf644bd873642689"), looks := false }, kinds := [], alts := [], laidByText := true, laidKinds := [.data, .pinned], laidTests := true, laidLooks := .later }
def FnIdsUptoCardSaid : Prop := Claim7.holds Tryz.pinned (.plain (OpenSpec.upto fnIdsSpec)) fnIdsUptoCard
end Rows
end Go.Proofs.YtcpoodhbakkmcaaGreatDoor
