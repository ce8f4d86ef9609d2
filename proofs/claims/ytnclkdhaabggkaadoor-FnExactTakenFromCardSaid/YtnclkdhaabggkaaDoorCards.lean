/-
  DERIVED. GIVEN WITH THE SEED: THE CARDS: each row of YtnclkdhaabggkaaDoorRows.lean that lists a variable, with what it lists TIED to the program's text (the seventh form; the later family's looks); each row that meets fmt, with fmt's text TOLD by the authors' own Lean function (tested against real Go, not proved from fmt's source: count such statements apart). THE CARD IS WHAT COUNTS. Prove the row's statement (the work); the ties are given (YtnclkdhaabggkaaDoorTie.lean); close each card by the builder's one call (the guide's Derived/Test/ToyasCard.lean, 'card_holds'). Laid BY PROGRAM, IN A SANDBOX (cutbox-door.mjs). By AI agents, Wed Nov 11 2026. No macro, syntax, notation, axiom, sorry.
-/
import Derived.Test.YtnclkdhaabggkaaDoorRows
import GoSem.ClaimSeven
namespace Go.Proofs.YtnclkdhaabggkaaDoor
namespace Rows

/-- THE TIED CARD OF 'laws.FnExactTakenFrom'. -/
def fnExactTakenFromCard : Claim7 := { stood := { row := fnExactTakenFromRow, standIns := [], harness := (true, "e0e792d010099a10f2687fc7e99909de4c989264c83184a44af52b3591d0f162"), looks := false }, kinds := [], alts := [], laidByText := true, laidKinds := [.data, .pinned], laidTests := true, laidLooks := .later }
def FnExactTakenFromCardSaid : Prop := Claim7.holds Tryd.pinned (.plain (OpenSpec.ofChange fnExactTakenFromSpec)) fnExactTakenFromCard

/-- THE TIED CARD OF 'laws.FnExactShutOf'. -/
def fnExactShutOfCard : Claim7 := { stood := { row := fnExactShutOfRow, standIns := [], harness := (true, "e0e792d010099a10f2687fc7e99909de4c989264c83184a44af52b3591d0f162"), looks := false }, kinds := [], alts := [], laidByText := true, laidKinds := [.data, .pinned], laidTests := true, laidLooks := .later }
def FnExactShutOfCardSaid : Prop := Claim7.holds Tryd.pinned (.plain (OpenSpec.ofChange fnExactShutOfSpec)) fnExactShutOfCard

/-- THE TIED CARD OF 'laws.FnExactEndOf'. -/
def fnExactEndOfCard : Claim7 := { stood := { row := fnExactEndOfRow, standIns := [], harness := (true, "e0e792d010099a10f2687fc7e99909de4c989264c83184a44af52b3591d0f162"), looks := false }, kinds := [], alts := [], laidByText := true, laidKinds := [.data, .pinned], laidTests := true, laidLooks := .later }
def FnExactEndOfCardSaid : Prop := Claim7.holds Tryd.pinned (.plain (OpenSpec.ofChange fnExactEndOfSpec)) fnExactEndOfCard

/-- THE SECOND FORM's CARD OF 'laws.FnExactTakenFrom'. -/
def fnExactTakenFromUptoCard : Claim7 := { stood := { row := fnExactTakenFromUptoRow, standIns := [], harness := (true, "e0e792d010099a10f2687fc7e99909de4c989264c83184a44af52b3591d0f162"), looks := false }, kinds := [], alts := [], laidByText := true, laidKinds := [.data, .pinned], laidTests := true, laidLooks := .later }
def FnExactTakenFromUptoCardSaid : Prop := Claim7.holds Tryd.pinned (.plain (OpenSpec.upto fnExactTakenFromSpec)) fnExactTakenFromUptoCard

/-- THE SECOND FORM's CARD OF 'laws.FnExactShutOf'. -/
def fnExactShutOfUptoCard : Claim7 := { stood := { row := fnExactShutOfUptoRow, standIns := [], harness := (true, "e0e792d010099a10f2687fc7e99909de4c989264c83184a44af52b3591d0f162"), looks := false }, kinds := [], alts := [], laidByText := true, laidKinds := [.data, .pinned], laidTests := true, laidLooks := .later }
def FnExactShutOfUptoCardSaid : Prop := Claim7.holds Tryd.pinned (.plain (OpenSpec.upto fnExactShutOfSpec)) fnExactShutOfUptoCard

/-- THE SECOND FORM's CARD OF 'laws.FnExactEndOf'. -/
def fnExactEndOfUptoCard : Claim7 := { stood := { row := fnExactEndOfUptoRow, standIns := [], harness := (true, "e0e792d010099a10f2687fc7e99909de4c989264c83184a44af52b3591d0f162"), looks := false }, kinds := [], alts := [], laidByText := true, laidKinds := [.data, .pinned], laidTests := true, laidLooks := .later }
def FnExactEndOfUptoCardSaid : Prop := Claim7.holds Tryd.pinned (.plain (OpenSpec.upto fnExactEndOfSpec)) fnExactEndOfUptoCard
end Rows
end Go.Proofs.YtnclkdhaabggkaaDoor
