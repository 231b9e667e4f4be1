/- Whether the certificate of a header matches it: l13Fits of the model, matchError of the program. -/
import Derived.Test.YtdoaikanaodefaaMid
import Derived.Test.YtdoaikanaodefaaLimits
import Derived.Test.YtdoaikanaodefaaWat
namespace Go.Proofs.Ytdoaikanaodefaa
open Go.ChangeShapes Go.WideShapes Go.ChangeAt Go.RowKit
set_option linter.unusedSimpArgs false

/-- The certificate is one for the parent. -/
def fitsB (x y qx qy : Int) (l ql : List UInt8) : Bool := decide (qx < x) && (decide (qy = y - 1) && (ql == l))
end Go.Proofs.Ytdoaikanaodefaa
