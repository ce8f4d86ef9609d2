/-
  DERIVED. GIVEN WITH THE SEED: THE CARDS: each row of YtndkfmffmkgijaaDoorRows.lean that lists a variable, with what it lists TIED to the program's text (the seventh form; the later family's looks); each row that meets fmt, with fmt's text TOLD by the authors' own Lean function (tested against real Go, not proved from fmt's source: count such statements apart). THE CARD IS WHAT COUNTS. Prove the row's statement (the work); the ties are given (YtndkfmffmkgijaaDoorTie.lean); close each card by the builder's one call (the guide's Derived/Test/ToyasCard.lean, 'card_holds'). Laid BY PROGRAM, IN A SANDBOX (cutbox-door.mjs). By AI agents, Wed Nov 11 2026. No macro, syntax, notation, axiom, sorry.
-/
import Derived.Test.YtndkfmffmkgijaaDoorRows
import GoSem.ClaimSeven
namespace Go.Proofs.YtndkfmffmkgijaaDoor
namespace Rows

/-- THE TIED CARD OF 'laws.FnTries'. -/
def fnTriesCard : Claim7 := { stood := { row := fnTriesRow, standIns := [], harness := (true, "d3cd5b6a65b70a39841a852fcb8e6b757eccb9839d6b7e5cde2b4c725875bc23"), looks := false }, kinds := [], alts := [], laidByText := true, laidKinds := [.data, .pinned], laidTests := true, laidLooks := .later }
def FnTriesCardSaid : Prop := Claim7.holds Tryd.pinned (.plain (OpenSpec.ofChange fnTriesSpec)) fnTriesCard

/-- THE TIED CARD OF 'laws.FnExactWithId'. -/
def fnExactWithIdCard : Claim7 := { stood := { row := fnExactWithIdRow, standIns := [], harness := (true, "d3cd5b6a65b70a39841a852fcb8e6b757eccb9839d6b7e5cde2b4c725875bc23"), looks := false }, kinds := [], alts := [], laidByText := true, laidKinds := [.data, .pinned], laidTests := true, laidLooks := .later }
def FnExactWithIdCardSaid : Prop := Claim7.holds Tryd.pinned (.plain (OpenSpec.ofChange fnExactWithIdSpec)) fnExactWithIdCard

/-- THE TIED CARD OF 'laws.FnExactWithoutId'. -/
def fnExactWithoutIdCard : Claim7 := { stood := { row := fnExactWithoutIdRow, standIns := [], harness := (true, "d3cd5b6a65b70a39841a852fcb8e6b757eccb9839d6b7e5cde2b4c725875bc23"), looks := false }, kinds := [], alts := [], laidByText := true, laidKinds := [.data, .pinned], laidTests := true, laidLooks := .later }
def FnExactWithoutIdCardSaid : Prop := Claim7.holds Tryd.pinned (.plain (OpenSpec.ofChange fnExactWithoutIdSpec)) fnExactWithoutIdCard

/-- THE SECOND FORM's CARD OF 'laws.FnTries'. -/
def fnTriesUptoCard : Claim7 := { stood := { row := fnTriesUptoRow, standIns := [], harness := (true, "d3cd5b6a65b70a39841a852fcb8e6b757eccb9839d6b7e5cde2b4c725875bc23"), looks := false }, kinds := [], alts := [], laidByText := true, laidKinds := [.data, .pinned], laidTests := true, laidLooks := .later }
def FnTriesUptoCardSaid : Prop := Claim7.holds Tryd.pinned (.plain (OpenSpec.upto fnTriesSpec)) fnTriesUptoCard

/-- THE SECOND FORM's CARD OF 'laws.FnExactWithId'. -/
def fnExactWithIdUptoCard : Claim7 := { stood := { row := fnExactWithIdUptoRow, standIns := [], harness := (true, "d3cd5b6a65b70a39841a852fcb8e6b757eccb9839d6b7e5cde2b4c725875bc23"), looks := false }, kinds := [], alts := [], laidByText := true, laidKinds := [.data, .pinned], laidTests := true, laidLooks := .later }
def FnExactWithIdUptoCardSaid : Prop := Claim7.holds Tryd.pinned (.plain (OpenSpec.upto fnExactWithIdSpec)) fnExactWithIdUptoCard

/-- THE SECOND FORM's CARD OF 'laws.FnExactWithoutId'. -/
def fnExactWithoutIdUptoCard : Claim7 := { stood := { row := fnExactWithoutIdUptoRow, standIns := [], harness := (true, "d3cd5b6a65b70a39841a852fcb8e6b757eccb9839d6b7e5cde2b4c725875bc23"), looks := false }, kinds := [], alts := [], laidByText := true, laidKinds := [.data, .pinned], laidTests := true, laidLooks := .later }
def FnExactWithoutIdUptoCardSaid : Prop := Claim7.holds Tryd.pinned (.plain (OpenSpec.upto fnExactWithoutIdSpec)) fnExactWithoutIdUptoCard
end Rows
end Go.Proofs.YtndkfmffmkgijaaDoor
