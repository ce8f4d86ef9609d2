/- What every text over this translation imports. -/
import Derived.Test.YtcggenpianpoiaaRows
import Derived.Test.YtcggenpianpoiaaMem
import Derived.WalkKit
import Derived.WalkSpells
import Derived.WalkLawsBesides
import Derived.Lib.Hide
import Derived.Lib.SmallJoins
namespace Go.Proofs.Ytcggenpianpoiaa
open Go.RowKit

end Go.Proofs.Ytcggenpianpoiaa
