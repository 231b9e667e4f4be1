/- The contracts of l08In and PathLen as their models have them. -/
import Derived.Test.YtlchadbbldkkfaaPut
import Derived.Test.YtlchadbbldkkfaaPathMath
import Derived.Test.YtlchadbbldkkfaaSplitS
namespace Go.Proofs.Ytlchadbbldkkfaa
open Go.ChangeShapes Go.WideShapes Go.ChangeAt Go.RowKit

/-- Is there a path? -/
def pathB (i n : Int) : Bool := decide (1 ≤ n ∧ n ≤ 1048576 ∧ 0 ≤ i ∧ i < n)
theorem pathB_yes {i n : Int} (h : 1 ≤ n ∧ n ≤ 1048576 ∧ 0 ≤ i ∧ i < n) : pathB i n = true := decide_eq_true h
theorem pathB_no {i n : Int} (h : ¬ (1 ≤ n ∧ n ≤ 1048576 ∧ 0 ≤ i ∧ i < n)) : pathB i n = false := decide_eq_false h
/-- The length of the path, 0 if there is none. -/
def plenZ (i n : Int) : Int := if pathB i n = true then (plenN i.toNat n.toNat : Int) else 0

end Go.Proofs.Ytlchadbbldkkfaa
