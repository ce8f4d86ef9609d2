/- What a law's proof wants over a translation that lists no variable. -/
import Derived.Test.YtcggenpianpoiaaRows
import Derived.Test.YtcggenpianpoiaaChecked
import Derived.WalkKit
import Derived.ProofKit
import Derived.OpenShut
import Derived.Deep.DeepHandedRow
import Derived.Lay
import Derived.ChangeOld
import Derived.Below
import Derived.MakeChecks
namespace Go.Proofs.Ytcggenpianpoiaa
open Go.ChangeShapes Go.WideShapes Go.ChangeAt Go.RowKit Go.WideMaps Go.WideElems
open Go.ChangeMaps (open_string shut_string)

theorem own : ownKnob Try.prog.godebug = none := by kernel_rfl

theorem laidOut : laidOutB Try.prog = true := by kernel_rfl

end Go.Proofs.Ytcggenpianpoiaa
