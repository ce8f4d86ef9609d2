/- The program's chapter 8: implTaken_any, implShut_any, implEnd_any. -/
import Derived.Test.YtfkikdoecoobgaaDoorZITakeN
import Derived.Test.YtfkikdoecoobgaaDoorZB5
set_option linter.unusedSimpArgs false
set_option linter.unusedVariables false
namespace Go.Proofs.YtfkikdoecoobgaaDoor
end Go.Proofs.YtfkikdoecoobgaaDoor
