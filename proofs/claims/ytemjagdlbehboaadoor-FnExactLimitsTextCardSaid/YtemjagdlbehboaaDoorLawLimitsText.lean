/- The walk of the exact law of LimitsText: for all limits the law answers true and leaves all memory that was there as it was. -/
import Derived.Test.YtemjagdlbehboaaDoorLimText
namespace Go.Proofs.YtemjagdlbehboaaDoor
open Go.ChangeShapes Go.WideShapes Go.ChangeAt Go.RowKit

set_option maxRecDepth 100000 in
set_option maxHeartbeats 2000000 in
theorem LimitsText_walk (a b c d e : Int) (W : World) (ht : Tab10 W) :
    Calls Tryd.prog 3 #[.agg #[.int .i64 a, .int .i64 b, .int .i64 c, .int .i64 d, .int .i64 e]] W (Yes W) := by
  obtain ⟨x, hx⟩ : ∃ x, x = limTxt a b c d e := ⟨_, rfl⟩
  have HX := Lib.hid hx
  have HT := Lib.hid ht
  clear hx ht
  have hne : (x.toList != x.toList) = false := by simp
  have hb0 : Below W.heap.size W (W.alloc (.cells #[.int .i64 a, .int .i64 b, .int .i64 c, .int .i64 d, .int .i64 e] 23)) := (Below.refl _ _).alloc (Nat.le_refl _) _
  have hB0 := BoxL.new W 23 a b c d e
  go_enter Tryd.func3, Tryd.ntmps3
  go_wp2_with fail
  refine (toLimits_any a b c d e _).mono ?_
  rintro ev w1 ⟨rfl, hb1⟩
  replace hB0 := hB0.up hb1
  replace hb0 := hb0.trans (hb1.mono hb0.size)
  clear hb1
  go_wp2_with fail
  refine (specLimitsText_any a b c d e _).mono ?_
  rw [← HX.out]
  rintro ev w2 ⟨rfl, hb2⟩
  replace hB0 := hB0.up hb2
  replace hb0 := hb0.trans (hb2.mono hb0.size)
  clear hb2
  obtain ⟨k, k0, k1, k2, k3, k4⟩ := hB0
  go_wp2_with fail
  refine (toLimits_any a b c d e _).mono ?_
  rintro ev w3 ⟨rfl, hb3⟩
  replace hb0 := hb0.trans (hb3.mono hb0.size)
  clear hb3
  go_wp2_with fail
  refine (implLimitsText_any a b c d e _ (HT.out.up hb0)).mono ?_
  rw [← HX.out]
  rintro ev w4 ⟨rfl, hb4⟩
  replace hb0 := hb0.trans (hb4.mono hb0.size)
  clear hb4 k k0 k1 k2 k3 k4
  go_wp2
  go_ret
  exact ⟨rfl, hb0⟩
end Go.Proofs.YtemjagdlbehboaaDoor
