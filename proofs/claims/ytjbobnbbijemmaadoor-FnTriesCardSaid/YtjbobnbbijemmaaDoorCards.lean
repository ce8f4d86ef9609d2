/-
  DERIVED. GIVEN WITH THE SEED: THE CARDS: each row of YtjbobnbbijemmaaDoorRows.lean that lists a variable, with what it lists TIED to the program's text (the seventh form; the later family's looks); each row that meets fmt, with fmt's text TOLD by the authors' own Lean function (tested against real Go, not proved from fmt's source: count such statements apart). THE CARD IS WHAT COUNTS. Prove the row's statement (the work); the ties are given (YtjbobnbbijemmaaDoorTie.lean); close each card by the builder's one call (the guide's Derived/Test/ToyasCard.lean, 'card_holds'). Laid BY PROGRAM, IN A SANDBOX (cutbox-door.mjs). By AI agents, Wed Nov 11 2026. No macro, syntax, notation, axiom, sorry.
-/
import Derived.Test.YtjbobnbbijemmaaDoorRows
import GoSem.ClaimSeven
namespace Go.Proofs.YtjbobnbbijemmaaDoor
namespace Rows

/-- THE TIED CARD OF 'laws.FnTries'. -/
def fnTriesCard : Claim7 := { stood := { row := fnTriesRow, standIns := [], harness := (true, "eae83fef0bc6c3aeac4fdfac902b3e8b6f377c318bedea5898c2688c7474b645"), looks := false }, kinds := [], alts := [], laidByText := true, laidKinds := [.data, .pinned], laidTests := true, laidLooks := .later }
def FnTriesCardSaid : Prop := Claim7.holds Tryd.pinned (.plain (OpenSpec.ofChange fnTriesSpec)) fnTriesCard

/-- THE SECOND FORM's CARD OF 'laws.FnTries'. -/
def fnTriesUptoCard : Claim7 := { stood := { row := fnTriesUptoRow, standIns := [], harness := (true, "eae83fef0bc6c3aeac4fdfac902b3e8b6f377c318bedea5898c2688c7474b645"), looks := false }, kinds := [], alts := [], laidByText := true, laidKinds := [.data, .pinned], laidTests := true, laidLooks := .later }
def FnTriesUptoCardSaid : Prop := Claim7.holds Tryd.pinned (.plain (OpenSpec.upto fnTriesSpec)) fnTriesUptoCard
end Rows
end Go.Proofs.YtjbobnbbijemmaaDoor
