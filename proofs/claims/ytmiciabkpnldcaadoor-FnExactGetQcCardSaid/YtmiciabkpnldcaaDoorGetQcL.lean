/- GetQc of both sides, in the words that the walk of its law asks. -/
import Derived.Test.YtmiciabkpnldcaaDoorGetQcS
import Derived.Test.YtmiciabkpnldcaaDoorGetQcI
namespace Go.Proofs.YtmiciabkpnldcaaDoor
open Go.ChangeShapes Go.WideShapes Go.ChangeAt Go.RowKit

theorem specGetQcL_any (a b c d e p : Int) (v : Value) (l : List UInt8) (w : World) (hv : Sp w w.heap.size v l) (hl : l.length ≤ 1073741824) :
    Calls Tryd.prog 4 #[.agg #[.int .i64 a, .int .i64 b, .int .i64 c, .int .i64 d, .int .i64 e], v, .int .i64 p] w (FreshQ3 w (gqX (qcAt l a p (limE a b c d e))) (gqY (qcAt l a p (limE a b c d e))) (gqM (qcAt l a p (limE a b c d e))) (gqK (qcAt l a p (limE a b c d e))) (gqL (qcAt l a p (limE a b c d e))) (gqP (qcAt l a p (limE a b c d e))) (qcAt l a p (limE a b c d e)).e) := specGetQc_any a b c d e p v l w hv hl
theorem implGetQcL_any (a b c d e p : Int) (v : Value) (l : List UInt8) (w : World) (hv : Sp w w.heap.size v l) (hl : l.length ≤ 1073741824) (hp : p ≤ 9223372036854775807) (hg : ErrT w) :
    Calls Tryd.prog 7 #[.agg #[.int .i64 a, .int .i64 b, .int .i64 c, .int .i64 d, .int .i64 e], v, .int .i64 p] w (FreshQ3 w (gqX (qcAt l a p (limE a b c d e))) (gqY (qcAt l a p (limE a b c d e))) (gqM (qcAt l a p (limE a b c d e))) (gqK (qcAt l a p (limE a b c d e))) (gqL (qcAt l a p (limE a b c d e))) (gqP (qcAt l a p (limE a b c d e))) (qcAt l a p (limE a b c d e)).e) := implGetQc_any a b c d e p v l w hv hl hp hg
end Go.Proofs.YtmiciabkpnldcaaDoor
