/- The walk of the exact law of BitsIn: for every argument the law answers true and leaves all memory that was there as it was. -/
import Derived.Test.YtoaokhhpgoabmaaAnd
namespace Go.Proofs.Ytoaokhhpgoabmaa
open Go.ChangeShapes Go.WideShapes Go.ChangeAt Go.RowKit

set_option maxRecDepth 100000 in
set_option maxHeartbeats 2000000 in
theorem BitsIn_walk (v0 : Value) (l0 : List UInt8) (v1 : Value) (l1 : List UInt8) (W : World) (h0 : Sl W W.heap.size v0 l0) (h1 : Sl W W.heap.size v1 l1) :
    Calls Try.prog 13 #[v0, v1] W (Yes W) := by
  have hs0 := h0
  obtain ⟨A0, c0, rfl, p0, q0, r0, z0⟩ := h0
  unfold maxLen at q0
  clear r0 z0
  have hs1 := h1
  obtain ⟨A1, c1, rfl, p1, q1, r1, z1⟩ := h1
  unfold maxLen at q1
  clear r1 z1
  by_cases hbig0 : 1048576 < l0.length
  · have hb : (1048576 : Int) < (l0.length : Int) := by omega
    go_enter Try.func13, Try.ntmps13
    go_wp2
    go_ret
    exact ⟨rfl, Below.refl _ _⟩
  have hb0 : ¬ ((1048576 : Int) < (l0.length : Int)) := by omega
  by_cases hbig1 : 1048576 < l1.length
  · have hb : (1048576 : Int) < (l1.length : Int) := by omega
    go_enter Try.func13, Try.ntmps13
    go_wp2
    go_ret
    exact ⟨rfl, Below.refl _ _⟩
  have hb1 : ¬ ((1048576 : Int) < (l1.length : Int)) := by omega
  obtain ⟨b0, hB⟩ : ∃ b, b = inB l0 l1 := ⟨_, rfl⟩
  have HB0 := Lib.hid hB
  clear hB
  have hbb0 : (b0 != b0) = false := by simp
  have H : Inv 5 W W [] := Inv.start W
  go_enter Try.func13, Try.ntmps13
  go_wp2_with fail
  refine (toByteS_any _ l0 _ (H.old hs0) (by omega)).mono ?_
  rintro e w1 ⟨u1, rfl, ho, hb⟩
  replace H := H.more ho hb
  clear ho hb
  go_wp2_with fail
  refine (toByteS_any _ l1 _ (H.old hs1) (by omega)).mono ?_
  rintro e w2 ⟨u2, rfl, ho, hb⟩
  replace H := H.more ho hb
  clear ho hb
  go_wp2_with fail
  refine (specBitsIn_any _ _ l0 l1 _ (H.sl (by simp)) (H.sl (by simp)) (by omega) (by omega) ).mono ?_
  rw [← HB0.out]
  rintro e w3 ⟨rfl, hb⟩
  replace H := H.up hb
  clear hb
  replace H := H.sub (qs := []) (by simp)
  go_wp2_with fail
  refine (toByteS_any _ l0 _ (H.old hs0) (by omega)).mono ?_
  rintro e w4 ⟨u4, rfl, ho, hb⟩
  replace H := H.more ho hb
  clear ho hb
  go_wp2_with fail
  refine (toByteS_any _ l1 _ (H.old hs1) (by omega)).mono ?_
  rintro e w5 ⟨u5, rfl, ho, hb⟩
  replace H := H.more ho hb
  clear ho hb
  go_wp2_with fail
  refine (implBitsIn_any _ _ l0 l1 _ (H.sl (by simp)) (H.sl (by simp)) (by omega) (by omega) ).mono ?_
  rw [← HB0.out]
  rintro e w6 ⟨rfl, hb⟩
  replace H := H.up hb
  clear hb
  go_wp2_with fail
  refine (toByteS_any _ l0 _ (H.old hs0) (by omega)).mono ?_
  rintro e w7 ⟨u7, rfl, ho, hb⟩
  replace H := H.more ho hb
  clear ho hb
  go_wp2_with fail
  refine (eqByteS_any _ _ l0 _ (H.sl (by simp)) (H.sl (by simp))).mono ?_
  rintro e _ ⟨rfl, d8, rfl⟩
  replace H := H.drewN d8
  replace H := H.sub (qs := [(u5, l1), (u4, l0)]) (by simp)
  go_wp2_with fail
  refine (toByteS_any _ l1 _ (H.old hs1) (by omega)).mono ?_
  rintro e w9 ⟨u9, rfl, ho, hb⟩
  replace H := H.more ho hb
  clear ho hb
  go_wp2_with fail
  refine (eqByteS_any _ _ l1 _ (H.sl (by simp)) (H.sl (by simp))).mono ?_
  rintro e _ ⟨rfl, d10, rfl⟩
  replace H := H.drewN d10
  replace H := H.sub (qs := [(u5, l1), (u4, l0)]) (by simp)
  go_wp2_with fail
  go_ret
  exact ⟨rfl, by have hfin := H.bel; simpa using hfin⟩
end Go.Proofs.Ytoaokhhpgoabmaa
