/- The walk of the exact law of Crc: for every argument the law answers true and leaves all memory that was there as it was. -/
import Derived.Test.YtmblfbbgieaodaaCrcMore
namespace Go.Proofs.Ytmblfbbgieaodaa
open Go.ChangeShapes Go.WideShapes Go.ChangeAt Go.RowKit

set_option maxRecDepth 100000 in
set_option maxHeartbeats 2000000 in
theorem Crc_walk (v0 : Value) (l0 : List UInt8) (W : World) (h0 : Sl W W.heap.size v0 l0) :
    Calls Try.prog 6 #[v0] W (Yes W) := by
  have hs0 := h0
  obtain ⟨A0, c0, rfl, p0, q0, r0, z0⟩ := h0
  unfold maxLen at q0
  clear r0 z0
  by_cases hbig0 : 1048576 < l0.length
  · have hb : (1048576 : Int) < (l0.length : Int) := by omega
    go_enter Try.func6, Try.ntmps6
    go_wp2
    go_ret
    exact ⟨rfl, Below.refl _ _⟩
  have hb0 : ¬ ((1048576 : Int) < (l0.length : Int)) := by omega
  obtain ⟨b0, hB⟩ : ∃ b, b = (sum l0 : Int) := ⟨_, rfl⟩
  have HB0 := Lib.hid hB
  clear hB
  have hbb0 : (b0 != b0) = false := by simp
  have H : Inv 5 W W [] := Inv.start W
  go_enter Try.func6, Try.ntmps6
  go_wp2_with fail
  refine (toByteS_any _ l0 _ (H.old hs0) (by omega)).mono ?_
  rintro e w1 ⟨u1, rfl, ho, hb⟩
  replace H := H.more ho hb
  clear ho hb
  go_wp2_with fail
  refine (specCrc_any _ l0 _ (H.sl (by simp)) (by omega) ).mono ?_
  rw [← HB0.out]
  rintro e w2 ⟨rfl, hb⟩
  replace H := H.up hb
  clear hb
  replace H := H.sub (qs := []) (by simp)
  go_wp2_with fail
  refine (toByteS_any _ l0 _ (H.old hs0) (by omega)).mono ?_
  rintro e w3 ⟨u3, rfl, ho, hb⟩
  replace H := H.more ho hb
  clear ho hb
  go_wp2_with fail
  refine (implCrc_any _ l0 _ (H.sl (by simp)) (by omega) ).mono ?_
  rw [← HB0.out]
  rintro e w4 ⟨rfl, hb⟩
  replace H := H.up hb
  clear hb
  go_wp2_with fail
  refine (toByteS_any _ l0 _ (H.old hs0) (by omega)).mono ?_
  rintro e w5 ⟨u5, rfl, ho, hb⟩
  replace H := H.more ho hb
  clear ho hb
  go_wp2_with fail
  refine (eqByteS_any _ _ l0 _ (H.sl (by simp)) (H.sl (by simp))).mono ?_
  rintro e _ ⟨rfl, d6, rfl⟩
  replace H := H.drewN d6
  replace H := H.sub (qs := [(u3, l0)]) (by simp)
  go_wp2_with fail
  go_ret
  exact ⟨rfl, by have hfin := H.bel; simpa using hfin⟩
end Go.Proofs.Ytmblfbbgieaodaa
