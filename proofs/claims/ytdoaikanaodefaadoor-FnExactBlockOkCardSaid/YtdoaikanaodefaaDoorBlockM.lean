/- Blocks: the contracts of markBlock and heldBlock. -/
import Derived.Test.YtdoaikanaodefaaDoorBlock
import Derived.Test.YtdoaikanaodefaaDoorHeadM
namespace Go.Proofs.YtdoaikanaodefaaDoor
open Go.ChangeShapes Go.WideShapes Go.ChangeAt Go.RowKit

end Go.Proofs.YtdoaikanaodefaaDoor
