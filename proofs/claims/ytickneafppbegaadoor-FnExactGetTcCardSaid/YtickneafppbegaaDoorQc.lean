/- Quorum certificates: the contracts of the helpers of exact laws on them: szQc, toQc, eqQc, markQc, heldQc. -/
import Derived.Test.YtickneafppbegaaDoorBox
import Derived.Test.YtickneafppbegaaDoorStackBase
namespace Go.Proofs.YtickneafppbegaaDoor
open Go.ChangeShapes Go.WideShapes Go.ChangeAt Go.RowKit

/-- How much a certificate's memory counts. -/
def qcZ (l k : List UInt8) (L : List (List UInt8)) : Int := (l.length : Int) + (k.length : Int) + (L.length : Int) + (sumL L : Int)
/-- What szQc leaves of m. -/
def szQZ (l k : List UInt8) (L : List (List UInt8)) (m : Int) : Int := if m < qcZ l k L then -1 else m - qcZ l k L
theorem szQZ_big {l k : List UInt8} {L : List (List UInt8)} {m : Int} (h : m < (l.length : Int) + (k.length : Int) + (L.length : Int) + (sumL L : Int)) : szQZ l k L m = -1 := if_pos h
theorem szQZ_ok {l k : List UInt8} {L : List (List UInt8)} {m : Int} (h : ¬ m < (l.length : Int) + (k.length : Int) + (L.length : Int) + (sumL L : Int)) : szQZ l k L m = m - ((l.length : Int) + (k.length : Int) + (L.length : Int) + (sumL L : Int)) := if_neg h
theorem szZ_big {L : List (List UInt8)} {m : Int} (h : m < (L.length : Int) + (sumL L : Int)) : szZ L m = -1 := if_pos h
theorem szZ_ok {L : List (List UInt8)} {m : Int} (h : ¬ m < (L.length : Int) + (sumL L : Int)) : szZ L m = m - (L.length : Int) - (sumL L : Int) := if_neg h
/-- The call returns a certificate of new rows; nothing that was there has turned. -/
def FreshQ (w : World) (x y : Int) (l k : List UInt8) (L : List (List UInt8)) (e : Ending) (w' : World) : Prop :=
  ∃ a b s vs, e = .returned (.agg #[.int .i64 x, .int .i64 y, a, b, s]) ∧ vs.length = L.length ∧ InvF w w' [segB 5 a l, segB 5 b k, segS 24 5 s vs L]
theorem InvF.openB' {W w : World} {ss : List (List Row)} {v : Value} {l : List UInt8} (H : InvF W w ss) (h : segB 5 v l ∈ ss) : ∃ A c, v = .slice A l.length c := by
  obtain ⟨A, c, rfl, _⟩ := H.slB 5 h
  exact ⟨A, c, rfl⟩
theorem InvF.openS {W w : World} {ss : List (List Row)} {v : Value} {vs : List Value} {L : List (List UInt8)} (H : InvF W w ss) (hv : vs.length = L.length) (h : segS 24 5 v vs L ∈ ss) : ∃ A c, v = .slice A L.length c := by
  obtain ⟨A, c, rfl, _⟩ := H.slS 24 5 hv h
  exact ⟨A, c, rfl⟩

end Go.Proofs.YtickneafppbegaaDoor
