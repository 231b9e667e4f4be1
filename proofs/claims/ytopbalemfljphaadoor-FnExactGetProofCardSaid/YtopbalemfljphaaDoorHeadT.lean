/- Headers whose tags lie over any row of a call's own: markHead. -/
import Derived.Test.YtopbalemfljphaaDoorHead
import Derived.Test.YtopbalemfljphaaDoorQcT
namespace Go.Proofs.YtopbalemfljphaaDoor
open Go.ChangeShapes Go.WideShapes Go.ChangeAt Go.RowKit

end Go.Proofs.YtopbalemfljphaaDoor
