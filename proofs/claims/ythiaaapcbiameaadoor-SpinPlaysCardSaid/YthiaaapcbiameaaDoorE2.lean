/- The contract of perform at an addition. -/
import Derived.Test.YthiaaapcbiameaaDoorD
import Derived.Test.YthiaaapcbiameaaDoorT
import Derived.StillTailTactics
namespace Go.Proofs.YthiaaapcbiameaaDoor
open Go.RowKit

end Go.Proofs.YthiaaapcbiameaaDoor
