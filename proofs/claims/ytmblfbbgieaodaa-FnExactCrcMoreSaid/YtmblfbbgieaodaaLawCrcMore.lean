/- The walk of the exact law of CrcMore: for every argument the law answers true and leaves all memory that was there as it was. -/
import Derived.Test.YtmblfbbgieaodaaCrcMore
namespace Go.Proofs.Ytmblfbbgieaodaa
open Go.ChangeShapes Go.WideShapes Go.ChangeAt Go.RowKit

set_option maxRecDepth 100000 in
set_option maxHeartbeats 2000000 in
theorem CrcMore_walk (n0 : Int) (v1 : Value) (l1 : List UInt8) (W : World) (h1 : Sl W W.heap.size v1 l1) :
    Calls Try.prog 5 #[.int .i64 n0, v1] W (Yes W) := by
  have hs1 := h1
  obtain ⟨A1, c1, rfl, p1, q1, r1, z1⟩ := h1
  unfold maxLen at q1
  clear r1 z1
  by_cases hbig1 : 1048576 < l1.length
  · have hb : (1048576 : Int) < (l1.length : Int) := by omega
    go_enter Try.func5, Try.ntmps5
    go_wp2
    go_ret
    exact ⟨rfl, Below.refl _ _⟩
  have hb1 : ¬ ((1048576 : Int) < (l1.length : Int)) := by omega
  obtain ⟨b0, hB⟩ : ∃ b, b = cMore n0 l1 := ⟨_, rfl⟩
  have HB0 := Lib.hid hB
  clear hB
  have hbb0 : (b0 != b0) = false := by simp
  have H : Inv 5 W W [] := Inv.start W
  go_enter Try.func5, Try.ntmps5
  go_wp2_with fail
  refine (toByteS_any _ l1 _ (H.old hs1) (by omega)).mono ?_
  rintro e w1 ⟨u1, rfl, ho, hb⟩
  replace H := H.more ho hb
  clear ho hb
  go_wp2_with fail
  refine (specCrcMore_any _ n0 l1 _ (H.sl (by simp)) (by omega) ).mono ?_
  rw [← HB0.out]
  rintro e w2 ⟨rfl, hb⟩
  replace H := H.up hb
  clear hb
  replace H := H.sub (qs := []) (by simp)
  go_wp2_with fail
  refine (toByteS_any _ l1 _ (H.old hs1) (by omega)).mono ?_
  rintro e w3 ⟨u3, rfl, ho, hb⟩
  replace H := H.more ho hb
  clear ho hb
  go_wp2_with fail
  refine (implCrcMore_any _ n0 l1 _ (H.sl (by simp)) (by omega) ).mono ?_
  rw [← HB0.out]
  rintro e w4 ⟨rfl, hb⟩
  replace H := H.up hb
  clear hb
  go_wp2_with fail
  refine (toByteS_any _ l1 _ (H.old hs1) (by omega)).mono ?_
  rintro e w5 ⟨u5, rfl, ho, hb⟩
  replace H := H.more ho hb
  clear ho hb
  go_wp2_with fail
  refine (eqByteS_any _ _ l1 _ (H.sl (by simp)) (H.sl (by simp))).mono ?_
  rintro e _ ⟨rfl, d6, rfl⟩
  replace H := H.drewN d6
  replace H := H.sub (qs := [(u3, l1)]) (by simp)
  go_wp2_with fail
  go_ret
  exact ⟨rfl, by have hfin := H.bel; simpa using hfin⟩
end Go.Proofs.Ytmblfbbgieaodaa
