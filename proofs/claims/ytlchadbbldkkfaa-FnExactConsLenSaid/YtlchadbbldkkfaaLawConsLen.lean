/- The walk of the exact law of ConsLen: for every argument the law answers true and leaves all memory that was there as it was. -/
import Derived.Test.YtlchadbbldkkfaaConsLen
namespace Go.Proofs.Ytlchadbbldkkfaa
open Go.ChangeShapes Go.WideShapes Go.ChangeAt Go.RowKit

set_option maxRecDepth 100000 in
set_option maxHeartbeats 2000000 in
theorem ConsLen_walk (n0 n1 : Int) (W : World) :
    Calls Try.prog 3 #[.int .i64 n0, .int .i64 n1] W (Yes W) := by
  obtain ⟨b0, hB⟩ : ∃ b, b = clenZ n0 n1 := ⟨_, rfl⟩
  have HB0 := Lib.hid hB
  clear hB
  have hbb0 : (b0 != b0) = false := by simp
  have H : Inv 5 W W [] := Inv.start W
  go_enter Try.func3, Try.ntmps3
  go_wp2_with fail
  refine (specConsLenB_any n0 n1 _).mono ?_
  rw [← HB0.out]
  rintro e w1 ⟨rfl, hb⟩
  replace H := H.up hb
  clear hb
  go_wp2_with fail
  refine (implConsLen_any n0 n1 _).mono ?_
  rw [← HB0.out]
  rintro e w2 ⟨rfl, hb⟩
  replace H := H.up hb
  clear hb
  go_wp2_with fail
  go_ret
  exact ⟨rfl, by have hfin := H.bel; simpa using hfin⟩
end Go.Proofs.Ytlchadbbldkkfaa
