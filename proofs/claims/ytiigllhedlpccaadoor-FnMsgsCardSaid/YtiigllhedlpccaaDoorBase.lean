/- What every text over this translation imports. -/
import Derived.Test.YtiigllhedlpccaaDoorRows
import Derived.Test.YtiigllhedlpccaaDoorMem
import Derived.WalkKit
import Derived.WalkSpells
import Derived.WalkLawsBesides
import Derived.Lib.Hide
import Derived.Lib.SmallJoins
namespace Go.Proofs.YtiigllhedlpccaaDoor
open Go.RowKit

end Go.Proofs.YtiigllhedlpccaaDoor
