/-
  DERIVED. GIVEN WITH THE SEED: THE CARDS: each row of YtgmlohgfkbjmlaaDoorRows.lean that lists a variable, with what it lists TIED to the program's text (the seventh form; the later family's looks); each row that meets fmt, with fmt's text TOLD by the authors' own Lean function (tested against real Go, not proved from fmt's source: count such statements apart). THE CARD IS WHAT COUNTS. Prove the row's statement (the work); the ties are given (YtgmlohgfkbjmlaaDoorTie.lean); close each card by the builder's one call (the guide's Derived/Test/ToyasCard.lean, 'card_holds'). Laid BY PROGRAM, IN A SANDBOX (cutbox-door.mjs). By AI agents, Wed Nov 11 2026. No macro, syntax, notation, axiom, sorry.
-/
import Derived.Test.YtgmlohgfkbjmlaaDoorRows
import GoSem.ClaimSeven
namespace Go.Proofs.YtgmlohgfkbjmlaaDoor
namespace Rows

/-- THE TIED CARD OF 'laws.FnExactBoxOk'. -/
def fnExactBoxOkCard : Claim7 := { stood := { row := fnExactBoxOkRow, standIns := [], harness := (true, "d231094d8eef3087c1e3eb0e0bb0bf125318780951f4f7fae6be1057ca3cbd3f"), looks := true }, kinds := [], alts := [], laidByText := true, laidKinds := [.data, .pinned], laidTests := true, laidLooks := .later }
def FnExactBoxOkCardSaid : Prop := Claim7.holds Tryd.pinned (.plain (OpenSpec.ofChange fnExactBoxOkSpec)) fnExactBoxOkCard

/-- THE TIED CARD OF 'laws.FnExactNewBox'. -/
def fnExactNewBoxCard : Claim7 := { stood := { row := fnExactNewBoxRow, standIns := [], harness := (true, "d231094d8eef3087c1e3eb0e0bb0bf125318780951f4f7fae6be1057ca3cbd3f"), looks := true }, kinds := [], alts := [], laidByText := true, laidKinds := [.data, .pinned], laidTests := true, laidLooks := .later }
def FnExactNewBoxCardSaid : Prop := Claim7.holds Tryd.pinned (.plain (OpenSpec.ofChange fnExactNewBoxSpec)) fnExactNewBoxCard

/-- THE TIED CARD OF 'laws.FnExactOfferedTo'. -/
def fnExactOfferedToCard : Claim7 := { stood := { row := fnExactOfferedToRow, standIns := [], harness := (true, "d231094d8eef3087c1e3eb0e0bb0bf125318780951f4f7fae6be1057ca3cbd3f"), looks := true }, kinds := [], alts := [], laidByText := true, laidKinds := [.data, .pinned], laidTests := true, laidLooks := .later }
def FnExactOfferedToCardSaid : Prop := Claim7.holds Tryd.pinned (.plain (OpenSpec.ofChange fnExactOfferedToSpec)) fnExactOfferedToCard

/-- THE SECOND FORM's CARD OF 'laws.FnExactBoxOk'. -/
def fnExactBoxOkUptoCard : Claim7 := { stood := { row := fnExactBoxOkUptoRow, standIns := [], harness := (true, "d231094d8eef3087c1e3eb0e0bb0bf125318780951f4f7fae6be1057ca3cbd3f"), looks := true }, kinds := [], alts := [], laidByText := true, laidKinds := [.data, .pinned], laidTests := true, laidLooks := .later }
def FnExactBoxOkUptoCardSaid : Prop := Claim7.holds Tryd.pinned (.plain (OpenSpec.upto fnExactBoxOkSpec)) fnExactBoxOkUptoCard

/-- THE SECOND FORM's CARD OF 'laws.FnExactNewBox'. -/
def fnExactNewBoxUptoCard : Claim7 := { stood := { row := fnExactNewBoxUptoRow, standIns := [], harness := (true, "d231094d8eef3087c1e3eb0e0bb0bf125318780951f4f7fae6be1057ca3cbd3f"), looks := true }, kinds := [], alts := [], laidByText := true, laidKinds := [.data, .pinned], laidTests := true, laidLooks := .later }
def FnExactNewBoxUptoCardSaid : Prop := Claim7.holds Tryd.pinned (.plain (OpenSpec.upto fnExactNewBoxSpec)) fnExactNewBoxUptoCard

/-- THE SECOND FORM's CARD OF 'laws.FnExactOfferedTo'. -/
def fnExactOfferedToUptoCard : Claim7 := { stood := { row := fnExactOfferedToUptoRow, standIns := [], harness := (true, "d231094d8eef3087c1e3eb0e0bb0bf125318780951f4f7fae6be1057ca3cbd3f"), looks := true }, kinds := [], alts := [], laidByText := true, laidKinds := [.data, .pinned], laidTests := true, laidLooks := .later }
def FnExactOfferedToUptoCardSaid : Prop := Claim7.holds Tryd.pinned (.plain (OpenSpec.upto fnExactOfferedToSpec)) fnExactOfferedToUptoCard
end Rows
end Go.Proofs.YtgmlohgfkbjmlaaDoor
