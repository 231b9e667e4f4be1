/- Headers: the contracts of markHead and heldHead. -/
import Derived.Test.YtopbalemfljphaaDoorHead
namespace Go.Proofs.YtopbalemfljphaaDoor
open Go.ChangeShapes Go.WideShapes Go.ChangeAt Go.RowKit

end Go.Proofs.YtopbalemfljphaaDoor
