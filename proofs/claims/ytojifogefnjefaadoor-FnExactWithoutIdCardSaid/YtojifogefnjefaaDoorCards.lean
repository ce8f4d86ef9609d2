/-
  DERIVED. GIVEN WITH THE SEED: THE CARDS: each row of YtojifogefnjefaaDoorRows.lean that lists a variable, with what it lists TIED to the program's text (the seventh form; the later family's looks); each row that meets fmt, with fmt's text TOLD by the authors' own Lean function (tested against real Go, not proved from fmt's source: count such statements apart). THE CARD IS WHAT COUNTS. Prove the row's statement (the work); the ties are given (YtojifogefnjefaaDoorTie.lean); close each card by the builder's one call (the guide's Derived/Test/ToyasCard.lean, 'card_holds'). Laid BY PROGRAM, IN A SANDBOX (cutbox-door.mjs). By AI agents, Wed Nov 11 2026. No macro, syntax, notation, axiom, sorry.
-/
import Derived.Test.YtojifogefnjefaaDoorRows
import GoSem.ClaimSeven
namespace Go.Proofs.YtojifogefnjefaaDoor
namespace Rows

/-- THE TIED CARD OF 'laws.FnExactWithoutId'. -/
def fnExactWithoutIdCard : Claim7 := { stood := { row := fnExactWithoutIdRow, standIns := [], harness := (true, "1a3e924748a5be95a2e51619db682fc594766d2dfe29b5e4caae2c31be96f775"), looks := false }, kinds := [], alts := [], laidByText := true, laidKinds := [.data, .pinned], laidTests := true, laidLooks := .later }
def FnExactWithoutIdCardSaid : Prop := Claim7.holds Tryd.pinned (.plain (OpenSpec.ofChange fnExactWithoutIdSpec)) fnExactWithoutIdCard

/-- THE SECOND FORM's CARD OF 'laws.FnExactWithoutId'. -/
def fnExactWithoutIdUptoCard : Claim7 := { stood := { row := fnExactWithoutIdUptoRow, standIns := [], harness := (true, "1a3e924748a5be95a2e51619db682fc594766d2dfe29b5e4caae2c31be96f775"), looks := false }, kinds := [], alts := [], laidByText := true, laidKinds := [.data, .pinned], laidTests := true, laidLooks := .later }
def FnExactWithoutIdUptoCardSaid : Prop := Claim7.holds Tryd.pinned (.plain (OpenSpec.upto fnExactWithoutIdSpec)) fnExactWithoutIdUptoCard
end Rows
end Go.Proofs.YtojifogefnjefaaDoor
