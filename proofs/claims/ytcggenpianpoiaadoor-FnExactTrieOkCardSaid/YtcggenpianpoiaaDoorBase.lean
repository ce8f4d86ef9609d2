/- What every text over this translation imports. -/
import Derived.Test.YtcggenpianpoiaaDoorRows
import Derived.Test.YtcggenpianpoiaaDoorMem
import Derived.WalkKit
import Derived.WalkSpells
import Derived.WalkLawsBesides
import Derived.Lib.Hide
import Derived.Lib.SmallJoins
namespace Go.Proofs.YtcggenpianpoiaaDoor
open Go.RowKit

end Go.Proofs.YtcggenpianpoiaaDoor
