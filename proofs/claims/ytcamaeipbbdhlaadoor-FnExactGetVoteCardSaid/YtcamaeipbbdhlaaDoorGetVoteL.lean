/- GetVote of both sides, in the words that the walk of its law asks. -/
import Derived.Test.YtcamaeipbbdhlaaDoorGetVoteI
namespace Go.Proofs.YtcamaeipbbdhlaaDoor
open Go.ChangeShapes Go.WideShapes Go.ChangeAt Go.RowKit

theorem gvM_len (l : List UInt8) (n p e : Int) : (gvM (voteAt l n p e)).length ≤ l.length := by
  unfold gvM
  split
  · exact rV_len l 32 _ _
  · simp
theorem gvK_len (l : List UInt8) (n p e : Int) : (gvK (voteAt l n p e)).length ≤ l.length := by
  unfold gvK
  split
  · exact rV_len l 32 _ _
  · simp
theorem specGetVoteL_any (a b c d e p : Int) (v : Value) (l : List UInt8) (w : World) (hv : Sp w w.heap.size v l) (hl : l.length ≤ 1073741824) :
    Calls Tryd.prog 4 #[.agg #[.int .i64 a, .int .i64 b, .int .i64 c, .int .i64 d, .int .i64 e], v, .int .i64 p] w (FreshV3 w (gvX (voteAt l a p (limE a b c d e))) (gvY (voteAt l a p (limE a b c d e))) (gvZ (voteAt l a p (limE a b c d e))) (gvM (voteAt l a p (limE a b c d e))) (gvK (voteAt l a p (limE a b c d e))) (gvP (voteAt l a p (limE a b c d e))) (voteAt l a p (limE a b c d e)).e) := specGetVote_any a b c d e p v l w hv hl
theorem implGetVoteL_any (a b c d e p : Int) (v : Value) (l : List UInt8) (w : World) (hv : Sp w w.heap.size v l) (hl : l.length ≤ 1073741824) (hp : p ≤ 9223372036854775807) (hg : ErrT w) :
    Calls Tryd.prog 7 #[.agg #[.int .i64 a, .int .i64 b, .int .i64 c, .int .i64 d, .int .i64 e], v, .int .i64 p] w (FreshV3 w (gvX (voteAt l a p (limE a b c d e))) (gvY (voteAt l a p (limE a b c d e))) (gvZ (voteAt l a p (limE a b c d e))) (gvM (voteAt l a p (limE a b c d e))) (gvK (voteAt l a p (limE a b c d e))) (gvP (voteAt l a p (limE a b c d e))) (voteAt l a p (limE a b c d e)).e) := implGetVote_any a b c d e p v l w hv hl hp hg
end Go.Proofs.YtcamaeipbbdhlaaDoor
