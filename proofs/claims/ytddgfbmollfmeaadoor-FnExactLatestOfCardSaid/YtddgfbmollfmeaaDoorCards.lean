/-
  DERIVED. GIVEN WITH THE SEED: THE CARDS: each row of YtddgfbmollfmeaaDoorRows.lean that lists a variable, with what it lists TIED to the program's text (the seventh form; the later family's looks); each row that meets fmt, with fmt's text TOLD by the authors' own Lean function (tested against real Go, not proved from fmt's source: count such statements apart). THE CARD IS WHAT COUNTS. Prove the row's statement (the work); the ties are given (YtddgfbmollfmeaaDoorTie.lean); close each card by the builder's one call (the guide's Derived/Test/ToyasCard.lean, 'card_holds'). Laid BY PROGRAM, IN A SANDBOX (cutbox-door.mjs). By AI agents, Wed Nov 11 2026. No macro, syntax, notation, axiom, sorry.
-/
import Derived.Test.YtddgfbmollfmeaaDoorRows
import GoSem.ClaimSeven
namespace Go.Proofs.YtddgfbmollfmeaaDoor
namespace Rows

/-- THE TIED CARD OF 'laws.FnExactRingOk'. -/
def fnExactRingOkCard : Claim7 := { stood := { row := fnExactRingOkRow, standIns := [], harness := (true, "56487d89c5e46f0ce30f7681ed7c7122c62d0cb41ea91dd91e76512fa594143b"), looks := false }, kinds := [], alts := [], laidByText := true, laidKinds := [.data, .pinned], laidTests := true, laidLooks := .later }
def FnExactRingOkCardSaid : Prop := Claim7.holds Tryd.pinned (.plain (OpenSpec.ofChange fnExactRingOkSpec)) fnExactRingOkCard

/-- THE TIED CARD OF 'laws.FnExactRecorded'. -/
def fnExactRecordedCard : Claim7 := { stood := { row := fnExactRecordedRow, standIns := [], harness := (true, "56487d89c5e46f0ce30f7681ed7c7122c62d0cb41ea91dd91e76512fa594143b"), looks := false }, kinds := [], alts := [], laidByText := true, laidKinds := [.data, .pinned], laidTests := true, laidLooks := .later }
def FnExactRecordedCardSaid : Prop := Claim7.holds Tryd.pinned (.plain (OpenSpec.ofChange fnExactRecordedSpec)) fnExactRecordedCard

/-- THE TIED CARD OF 'laws.FnExactLatestOf'. -/
def fnExactLatestOfCard : Claim7 := { stood := { row := fnExactLatestOfRow, standIns := [], harness := (true, "56487d89c5e46f0ce30f7681ed7c7122c62d0cb41ea91dd91e76512fa594143b"), looks := false }, kinds := [], alts := [], laidByText := true, laidKinds := [.data, .pinned], laidTests := true, laidLooks := .later }
def FnExactLatestOfCardSaid : Prop := Claim7.holds Tryd.pinned (.plain (OpenSpec.ofChange fnExactLatestOfSpec)) fnExactLatestOfCard

/-- THE SECOND FORM's CARD OF 'laws.FnExactRingOk'. -/
def fnExactRingOkUptoCard : Claim7 := { stood := { row := fnExactRingOkUptoRow, standIns := [], harness := (true, "56487d89c5e46f0ce30f7681ed7c7122c62d0cb41ea91dd91e76512fa594143b"), looks := false }, kinds := [], alts := [], laidByText := true, laidKinds := [.data, .pinned], laidTests := true, laidLooks := .later }
def FnExactRingOkUptoCardSaid : Prop := Claim7.holds Tryd.pinned (.plain (OpenSpec.upto fnExactRingOkSpec)) fnExactRingOkUptoCard

/-- THE SECOND FORM's CARD OF 'laws.FnExactRecorded'. -/
def fnExactRecordedUptoCard : Claim7 := { stood := { row := fnExactRecordedUptoRow, standIns := [], harness := (true, "56487d89c5e46f0ce30f7681ed7c7122c62d0cb41ea91dd91e76512fa594143b"), looks := false }, kinds := [], alts := [], laidByText := true, laidKinds := [.data, .pinned], laidTests := true, laidLooks := .later }
def FnExactRecordedUptoCardSaid : Prop := Claim7.holds Tryd.pinned (.plain (OpenSpec.upto fnExactRecordedSpec)) fnExactRecordedUptoCard

/-- THE SECOND FORM's CARD OF 'laws.FnExactLatestOf'. -/
def fnExactLatestOfUptoCard : Claim7 := { stood := { row := fnExactLatestOfUptoRow, standIns := [], harness := (true, "56487d89c5e46f0ce30f7681ed7c7122c62d0cb41ea91dd91e76512fa594143b"), looks := false }, kinds := [], alts := [], laidByText := true, laidKinds := [.data, .pinned], laidTests := true, laidLooks := .later }
def FnExactLatestOfUptoCardSaid : Prop := Claim7.holds Tryd.pinned (.plain (OpenSpec.upto fnExactLatestOfSpec)) fnExactLatestOfUptoCard
end Rows
end Go.Proofs.YtddgfbmollfmeaaDoor
