/- GetTc of both sides in the words of the laws. -/
import Derived.Test.YtickneafppbegaaDoorGetTcS
import Derived.Test.YtickneafppbegaaDoorGetTcI
namespace Go.Proofs.YtickneafppbegaaDoor
open Go.ChangeShapes Go.WideShapes Go.ChangeAt Go.RowKit

/-- The call returns a timeout certificate of new rows, a place and an error. -/
def FreshTc3 (w : World) (x : Int) (L : List Et) (p c : Int) (e : Ending) (w' : World) : Prop :=
  ∃ s ps, e = .returned (.tuple #[.agg #[.int .i64 x, s], .int .i64 p, .int .i64 c]) ∧ ps.length = L.length ∧ InvF w w' [segE s ps L]
/-- The same, of which no more is known than how it reads. -/
def ReadTc3 (w : World) (x : Int) (L : List Et) (p c : Int) (e : Ending) (w' : World) : Prop :=
  ∃ s, e = .returned (.tuple #[.agg #[.int .i64 x, s], .int .i64 p, .int .i64 c]) ∧ Below w.heap.size w w' ∧ SlE w' w'.heap.size s L
theorem specGetTcL_any (a b c d e p : Int) (v : Value) (l : List UInt8) (w : World) (hv : Sp w w.heap.size v l) (hl : l.length ≤ 1073741824) :
    Calls Tryd.prog 4 #[.agg #[.int .i64 a, .int .i64 b, .int .i64 c, .int .i64 d, .int .i64 e], v, .int .i64 p] w (ReadTc3 w (gtX (tcAt l a p (limE a b c d e))) (gtL (tcAt l a p (limE a b c d e))) (gtP (tcAt l a p (limE a b c d e))) (tcAt l a p (limE a b c d e)).e) := specGetTc_any a b c d e p v l w hv hl
theorem implGetTcL_any (a b c d e p : Int) (v : Value) (l : List UInt8) (w : World) (hv : Sp w w.heap.size v l) (hl : l.length ≤ 1073741824) (hp : p ≤ 9223372036854775807) (hg : ErrT w) :
    Calls Tryd.prog 7 #[.agg #[.int .i64 a, .int .i64 b, .int .i64 c, .int .i64 d, .int .i64 e], v, .int .i64 p] w (FreshTc3 w (gtX (tcAt l a p (limE a b c d e))) (gtL (tcAt l a p (limE a b c d e))) (gtP (tcAt l a p (limE a b c d e))) (tcAt l a p (limE a b c d e)).e) := implGetTc_any a b c d e p v l w hv hl hp hg
end Go.Proofs.YtickneafppbegaaDoor
