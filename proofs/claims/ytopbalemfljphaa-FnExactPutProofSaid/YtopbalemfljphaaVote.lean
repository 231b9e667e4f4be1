/- Votes: the contracts of the helpers of exact laws on votes: szVote, toVote, eqVote, markVote, heldVote. -/
import Derived.Test.YtopbalemfljphaaBox
import Derived.Test.YtopbalemfljphaaStackBase
namespace Go.Proofs.Ytopbalemfljphaa
open Go.ChangeShapes Go.WideShapes Go.ChangeAt Go.RowKit

/-- What szVote leaves of m. -/
def szVZ (l k : List UInt8) (m : Int) : Int := if m < (l.length : Int) + (k.length : Int) then -1 else m - ((l.length : Int) + (k.length : Int))
theorem szVZ_big {l k : List UInt8} {m : Int} (h : m < (l.length : Int) + (k.length : Int)) : szVZ l k m = -1 := if_pos h
theorem szVZ_ok {l k : List UInt8} {m : Int} (h : ¬ m < (l.length : Int) + (k.length : Int)) : szVZ l k m = m - ((l.length : Int) + (k.length : Int)) := if_neg h
/-- The call returns a vote of new rows; nothing that was there has turned. -/
def FreshV (w : World) (x y z : Int) (l k : List UInt8) (e : Ending) (w' : World) : Prop :=
  ∃ a b, e = .returned (.agg #[.int .i64 x, .int .i64 y, a, .int .i64 z, b]) ∧ InvF w w' [segB 5 a l, segB 5 b k]
theorem InvF.openB {W w : World} {ss : List (List Row)} {v : Value} {l : List UInt8} (H : InvF W w ss) (h : segB 5 v l ∈ ss) : ∃ A c, v = .slice A l.length c := by
  obtain ⟨A, c, rfl, _⟩ := H.slB 5 h
  exact ⟨A, c, rfl⟩

end Go.Proofs.Ytopbalemfljphaa
