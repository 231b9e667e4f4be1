/- GetIncl of the program in the law's words. -/
import Derived.Test.YtopbalemfljphaaDoorGetInI
import Derived.Test.YtopbalemfljphaaDoorGetInP
namespace Go.Proofs.YtopbalemfljphaaDoor
open Go.ChangeShapes Go.WideShapes Go.ChangeAt Go.RowKit

theorem implGetInclL_any (a b c d e p : Int) (v : Value) (l : List UInt8) (w : World) (hv : Sp w w.heap.size v l) (hl : l.length ≤ 1073741824) (hp : p ≤ 9223372036854775807) (hg : ErrT w) :
    Calls Tryd.prog 15 #[.agg #[.int .i64 a, .int .i64 b, .int .i64 c, .int .i64 d, .int .i64 e], v, .int .i64 p] w (FreshI3 w (giX (inAt l b c p (limE a b c d e))) (giY (inAt l b c p (limE a b c d e))) (giZ (inAt l b c p (limE a b c d e))) (giT (inAt l b c p (limE a b c d e))) (giL (inAt l b c p (limE a b c d e))) (giP (inAt l b c p (limE a b c d e))) (inAt l b c p (limE a b c d e)).e) := implGetIncl_any a b c d e p v l w hv hl hp hg
end Go.Proofs.YtopbalemfljphaaDoor
