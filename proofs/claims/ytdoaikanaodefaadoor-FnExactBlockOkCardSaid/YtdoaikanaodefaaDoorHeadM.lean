/- Headers: the contracts of markHead and heldHead. -/
import Derived.Test.YtdoaikanaodefaaDoorHead
namespace Go.Proofs.YtdoaikanaodefaaDoor
open Go.ChangeShapes Go.WideShapes Go.ChangeAt Go.RowKit

end Go.Proofs.YtdoaikanaodefaaDoor
