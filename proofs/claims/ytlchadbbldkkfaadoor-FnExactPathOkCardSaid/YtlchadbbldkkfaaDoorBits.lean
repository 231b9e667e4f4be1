/- The contracts of the small functions on bitmaps: BitsSize, BitsNew, BitsHas and what they call, as the program has them and as their model has them. -/
import Derived.Test.YtlchadbbldkkfaaDoorPut
import Derived.Test.YtlchadbbldkkfaaDoorBitMath
namespace Go.Proofs.YtlchadbbldkkfaaDoor
open Go.ChangeShapes Go.WideShapes Go.ChangeAt Go.RowKit

theorem wfHi {n : Int} (h : (Lit.int .i64 n).wf = true) : n ≤ 9223372036854775807 := by
  simp [Lit.wf, IntKind.min, IntKind.max, IntKind.signed, IntKind.bits] at h
  omega
def isIn (i n : Int) : Bool := decide (0 ≤ i ∧ i < n)
theorem us_zeros (m : Nat) : us (List.replicate m 0) = List.replicate m (.int .u8 0) := by simp [us]
end Go.Proofs.YtlchadbbldkkfaaDoor
