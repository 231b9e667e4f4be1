/- GetHead of both sides, in the words that the walk of its law asks. -/
import Derived.Test.YtgblkopdchpciaaDoorGetHeadS
import Derived.Test.YtgblkopdchpciaaDoorGetHeadI
namespace Go.Proofs.YtgblkopdchpciaaDoor
open Go.ChangeShapes Go.WideShapes Go.ChangeAt Go.RowKit

theorem specGetHeadL_any (a b c d e p : Int) (v : Value) (l : List UInt8) (w : World) (hv : Sp w w.heap.size v l) (hl : l.length ≤ 1073741824) :
    Calls Tryd.prog 6 #[.agg #[.int .i64 a, .int .i64 b, .int .i64 c, .int .i64 d, .int .i64 e], v, .int .i64 p] w (FreshH3 w (ghX (hdAt l a p (limE a b c d e))) (ghY (hdAt l a p (limE a b c d e))) (ghZ (hdAt l a p (limE a b c d e))) (ghQX (hdAt l a p (limE a b c d e))) (ghQY (hdAt l a p (limE a b c d e))) (ghM (hdAt l a p (limE a b c d e))) (ghK (hdAt l a p (limE a b c d e))) (ghQM (hdAt l a p (limE a b c d e))) (ghQK (hdAt l a p (limE a b c d e))) (ghQL (hdAt l a p (limE a b c d e))) (ghP (hdAt l a p (limE a b c d e))) (hdAt l a p (limE a b c d e)).e) := specGetHead_any a b c d e p v l w hv hl
theorem implGetHeadL_any (a b c d e p : Int) (v : Value) (l : List UInt8) (w : World) (hv : Sp w w.heap.size v l) (hl : l.length ≤ 1073741824) (hp : p ≤ 9223372036854775807) (hg : ErrT w) :
    Calls Tryd.prog 9 #[.agg #[.int .i64 a, .int .i64 b, .int .i64 c, .int .i64 d, .int .i64 e], v, .int .i64 p] w (FreshH3 w (ghX (hdAt l a p (limE a b c d e))) (ghY (hdAt l a p (limE a b c d e))) (ghZ (hdAt l a p (limE a b c d e))) (ghQX (hdAt l a p (limE a b c d e))) (ghQY (hdAt l a p (limE a b c d e))) (ghM (hdAt l a p (limE a b c d e))) (ghK (hdAt l a p (limE a b c d e))) (ghQM (hdAt l a p (limE a b c d e))) (ghQK (hdAt l a p (limE a b c d e))) (ghQL (hdAt l a p (limE a b c d e))) (ghP (hdAt l a p (limE a b c d e))) (hdAt l a p (limE a b c d e)).e) := implGetHead_any a b c d e p v l w hv hl hp hg
end Go.Proofs.YtgblkopdchpciaaDoor
