/- The walk of the exact law of VarSize: for every number the law answers true and leaves all memory that was there as it was. -/
import Derived.Test.YtahfklghnbpadaaPut
namespace Go.Proofs.Ytahfklghnbpadaa
open Go.ChangeShapes Go.WideShapes Go.ChangeAt Go.RowKit

theorem VarSize_walk (n : Int) (W : World) : Calls Try.prog 4 #[.int .i64 n] W (Yes W) := by
  have hss : ((sizeV n : Int) != (sizeV n : Int)) = false := by simp
  go_enter Try.func4, Try.ntmps4
  go_wp2_with fail
  refine (specVarSize_any n _).mono ?_
  rintro e w1 ⟨rfl, hb1⟩
  go_wp2_with fail
  refine (implVarSize_any n _).mono ?_
  rintro e w2 ⟨rfl, rfl⟩
  go_wp2_with fail
  go_ret
  exact ⟨rfl, hb1⟩
end Go.Proofs.Ytahfklghnbpadaa
