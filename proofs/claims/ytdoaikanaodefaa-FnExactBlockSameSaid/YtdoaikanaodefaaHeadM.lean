/- Headers: the contracts of markHead and heldHead. -/
import Derived.Test.YtdoaikanaodefaaHead
namespace Go.Proofs.Ytdoaikanaodefaa
open Go.ChangeShapes Go.WideShapes Go.ChangeAt Go.RowKit

end Go.Proofs.Ytdoaikanaodefaa
