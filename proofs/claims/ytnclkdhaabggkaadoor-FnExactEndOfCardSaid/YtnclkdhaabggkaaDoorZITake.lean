/- The program's chapter 8: implTaken_any, implShut_any, implEnd_any. -/
import Derived.Test.YtnclkdhaabggkaaDoorZITakeN
import Derived.Test.YtnclkdhaabggkaaDoorZB5
set_option linter.unusedSimpArgs false
set_option linter.unusedVariables false
namespace Go.Proofs.YtnclkdhaabggkaaDoor
end Go.Proofs.YtnclkdhaabggkaaDoor
