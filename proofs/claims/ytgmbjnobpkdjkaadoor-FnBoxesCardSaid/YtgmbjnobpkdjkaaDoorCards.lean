/-
  DERIVED. GIVEN WITH THE SEED: THE CARDS: each row of YtgmbjnobpkdjkaaDoorRows.lean that lists a variable, with what it lists TIED to the program's text (the seventh form; the later family's looks); each row that meets fmt, with fmt's text TOLD by the authors' own Lean function (tested against real Go, not proved from fmt's source: count such statements apart). THE CARD IS WHAT COUNTS. Prove the row's statement (the work); the ties are given (YtgmbjnobpkdjkaaDoorTie.lean); close each card by the builder's one call (the guide's Derived/Test/ToyasCard.lean, 'card_holds'). Laid BY PROGRAM, IN A SANDBOX (cutbox-door.mjs). By AI agents, Wed Nov 11 2026. No macro, syntax, notation, axiom, sorry.
-/
import Derived.Test.YtgmbjnobpkdjkaaDoorRows
import GoSem.ClaimSeven
namespace Go.Proofs.YtgmbjnobpkdjkaaDoor
namespace Rows

/-- THE TIED CARD OF 'laws.FnBoxes'. -/
def fnBoxesCard : Claim7 := { stood := { row := fnBoxesRow, standIns := [], harness := (true, "f21f4c0527d990deb3bcd4c679fb28b1c2c68ad8e1041132d6a668eda031f6ff"), looks := true }, kinds := [], alts := [], laidByText := true, laidKinds := [.data, .pinned], laidTests := true, laidLooks := .later }
def FnBoxesCardSaid : Prop := Claim7.holds Tryd.pinned (.plain (OpenSpec.ofChange fnBoxesSpec)) fnBoxesCard

/-- THE SECOND FORM's CARD OF 'laws.FnBoxes'. -/
def fnBoxesUptoCard : Claim7 := { stood := { row := fnBoxesUptoRow, standIns := [], harness := (true, "f21f4c0527d990deb3bcd4c679fb28b1c2c68ad8e1041132d6a668eda031f6ff"), looks := true }, kinds := [], alts := [], laidByText := true, laidKinds := [.data, .pinned], laidTests := true, laidLooks := .later }
def FnBoxesUptoCardSaid : Prop := Claim7.holds Tryd.pinned (.plain (OpenSpec.upto fnBoxesSpec)) fnBoxesUptoCard
end Rows
end Go.Proofs.YtgmbjnobpkdjkaaDoor
