/- The walk of the exact law of BitsNew: for every argument the law answers true and leaves all memory that was there as it was. -/
import Derived.Test.YtoaokhhpgoabmaaList
namespace Go.Proofs.Ytoaokhhpgoabmaa
open Go.ChangeShapes Go.WideShapes Go.ChangeAt Go.RowKit

set_option maxRecDepth 100000 in
set_option maxHeartbeats 2000000 in
theorem BitsNew_walk (n0 : Int) (W : World)  :
    Calls Try.prog 4 #[.int .i64 n0] W (Yes W) := by
  have hp : (newL n0).length ≤ 1073741824 := by have := newL_len n0; omega
  obtain ⟨L, hL⟩ : ∃ L, L = newL n0 := ⟨_, rfl⟩
  rw [← hL] at hp
  have HL := Lib.hid hL
  clear hL
  have H : Inv 5 W W [] := Inv.start W
  go_enter Try.func4, Try.ntmps4
  go_wp2_with fail
  refine (specBitsNew_any  n0 _   ).mono ?_
  rw [← HL.out]
  rintro e w1 ⟨u1, rfl, ho, hb⟩
  replace H := H.more ho hb
  clear ho hb
  go_wp2_with fail
  refine (implBitsNew_any  n0 _   ).mono ?_
  rw [← HL.out]
  rintro e w2 ⟨u2, rfl, ho, hb⟩
  replace H := H.more ho hb
  clear ho hb
  go_wp2_with fail
  refine (eqByteS_any _ _ L _ (H.sl (by simp)) (H.sl (by simp))).mono ?_
  rintro e _ ⟨rfl, d3, rfl⟩
  replace H := H.drewN d3
  go_wp2_with fail
  refine (markByteS_z _ L (1) _ _ _ (H.own (by simp)) rfl (by omega) (by omega)).mono ?_
  rintro e w4 ⟨rfl, ho, hg⟩
  replace H := H.wroteAt 0 rfl ho hg
  simp only [List.set_cons_zero] at H
  clear ho hg
  go_wp2_with fail
  refine (heldByteS_z _ 1 L.length _ _ (H.sl (by simp)) rfl (by omega) (by omega)).mono ?_
  rintro e _ ⟨rfl, d5, rfl⟩
  replace H := H.drewN d5
  have hltL : ¬ ((1 : Int) + (L.length : Int) < 0) := by omega
  have hneL : ((1 : Int) + (L.length : Int) != 1 + (L.length : Int)) = false := by simp
  go_wp2_with fail
  refine (implBitsNew_any  n0 _   ).mono ?_
  rw [← HL.out]
  rintro e w6 ⟨u6, rfl, ho, hb⟩
  replace H := H.more ho hb
  clear ho hb
  go_wp2_with fail
  refine (eqByteS_any _ _ L _ (H.sl (by simp)) (H.sl (by simp))).mono ?_
  rintro e _ ⟨rfl, d7, rfl⟩
  replace H := H.drewN d7
  go_wp2_with fail
  refine (heldByteS_z _ 1 L.length _ _ (H.sl (by simp)) rfl (by omega) (by omega)).mono ?_
  rintro e _ ⟨rfl, d8, rfl⟩
  replace H := H.drewN d8
  go_wp2_with fail
  go_ret
  exact ⟨rfl, by have hfin := H.bel; simpa using hfin⟩
end Go.Proofs.Ytoaokhhpgoabmaa
