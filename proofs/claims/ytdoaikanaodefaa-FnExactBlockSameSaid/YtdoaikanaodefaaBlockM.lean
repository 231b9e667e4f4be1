/- Blocks: the contracts of markBlock and heldBlock. -/
import Derived.Test.YtdoaikanaodefaaBlock
import Derived.Test.YtdoaikanaodefaaHeadM
namespace Go.Proofs.Ytdoaikanaodefaa
open Go.ChangeShapes Go.WideShapes Go.ChangeAt Go.RowKit

end Go.Proofs.Ytdoaikanaodefaa
