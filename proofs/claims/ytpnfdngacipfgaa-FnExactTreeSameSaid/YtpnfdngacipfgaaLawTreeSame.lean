/- The walk of the exact law of TreeSame: for every argument the law answers true and leaves all memory that was there as it was. -/
import Derived.Test.YtpnfdngacipfgaaTreeSame
import Derived.Test.YtpnfdngacipfgaaSeg
import Derived.Test.YtpnfdngacipfgaaSSBase
namespace Go.Proofs.Ytpnfdngacipfgaa
open Go.ChangeShapes Go.WideShapes Go.ChangeAt Go.RowKit

set_option maxRecDepth 100000 in
set_option maxHeartbeats 4000000 in
theorem TreeSame_walk (v0 : Value) (l0 : List (List UInt8)) (v1 : Value) (l1 : List (List UInt8)) (W : World) (h0 : SlS W W.heap.size v0 l0) (h1 : SlS W W.heap.size v1 l1) :
    Calls Try.prog 4 #[v0, v1] W (Yes W) := by
  have hs0 := h0
  obtain ⟨A0, c0, rfl, p0, q0, r0, z0⟩ := h0
  unfold maxLen at q0
  clear r0 z0
  have hs1 := h1
  obtain ⟨A1, c1, rfl, p1, q1, r1, z1⟩ := h1
  unfold maxLen at q1
  clear r1 z1
  by_cases hbig0 : 1048576 < (l0.length : Int) + (sumL l0 : Int)
  · have HZ0 : Hid (szZ l0 1048576 = -1) := Lib.hid (by unfold szZ; rw [if_pos hbig0])
    clear hbig0
    go_enter Try.func4, Try.ntmps4
    go_wp2_with fail
    refine (szByteSS_any _ l0 1048576 _ hs0 (by omega) (by omega)).mono ?_
    rw [HZ0.out]
    rintro e w' ⟨rfl, hw⟩
    obtain rfl : W = w' := hw.symm
    go_wp2
    go_ret
    exact ⟨rfl, Below.refl _ _⟩
  obtain ⟨z0z, hz0⟩ : ∃ z, z = 1048576 - (l0.length : Int) - (sumL l0 : Int) := ⟨_, rfl⟩
  have HZ0 : Hid (szZ l0 1048576 = z0z) := Lib.hid (by unfold szZ; rw [if_neg hbig0]; exact hz0.symm)
  have hzlo0 : 0 ≤ z0z := by omega
  have hzhi0 : z0z ≤ 1048576 := by omega
  have hzn0 : ¬ (z0z < 0) := by omega
  have hbl0 : l0.length ≤ 1048576 := by omega
  have hbs0 : sumL l0 ≤ 1048576 := by omega
  clear hbig0 hz0
  by_cases hbig1 : z0z < (l1.length : Int) + (sumL l1 : Int)
  · have HZ1 : Hid (szZ l1 z0z = -1) := Lib.hid (by unfold szZ; rw [if_pos hbig1])
    clear hbig1
    go_enter Try.func4, Try.ntmps4
    go_wp2_with fail
    refine (szByteSS_any _ l0 1048576 _ hs0 (by omega) (by omega)).mono ?_
    rw [HZ0.out]
    rintro e w' ⟨rfl, hw⟩
    obtain rfl : W = w' := hw.symm
    go_wp2_with fail
    refine (szByteSS_any _ l1 z0z _ hs1 hzlo0 (by omega)).mono ?_
    rw [HZ1.out]
    rintro e w' ⟨rfl, hw⟩
    obtain rfl : W = w' := hw.symm
    go_wp2
    go_ret
    exact ⟨rfl, Below.refl _ _⟩
  obtain ⟨z1z, hz1⟩ : ∃ z, z = z0z - (l1.length : Int) - (sumL l1 : Int) := ⟨_, rfl⟩
  have HZ1 : Hid (szZ l1 z0z = z1z) := Lib.hid (by unfold szZ; rw [if_neg hbig1]; exact hz1.symm)
  have hzlo1 : 0 ≤ z1z := by omega
  have hzhi1 : z1z ≤ 1048576 := by omega
  have hzn1 : ¬ (z1z < 0) := by omega
  have hbl1 : l1.length ≤ 1048576 := by omega
  have hbs1 : sumL l1 ≤ 1048576 := by omega
  clear hbig1 hz1
  obtain ⟨b0, hB⟩ : ∃ b, b = (l0 == l1) := ⟨_, rfl⟩
  have HB0 := Lib.hid hB
  clear hB
  have hbb0 : (b0 != b0) = false := by simp
  have H : InvF W W [] := InvF.start W
  go_enter Try.func4, Try.ntmps4
  go_wp2_with fail
  refine (szByteSS_any _ l0 1048576 _ hs0 (by omega) (by omega)).mono ?_
  rw [HZ0.out]
  rintro e w' ⟨rfl, hw⟩
  obtain rfl : W = w' := hw.symm
  go_wp2_with fail
  refine (szByteSS_any _ l1 z0z _ hs1 hzlo0 (by omega)).mono ?_
  rw [HZ1.out]
  rintro e w' ⟨rfl, hw⟩
  obtain rfl : W = w' := hw.symm
  go_wp2_with fail
  refine (toByteSS_any _ l0 _ (hs0.up H.bel) hbl0 hbs0).mono ?_
  rintro e w1 ⟨u1, vs1, rfl, hv, K⟩
  have HVu1 := Lib.hid hv
  replace H := H.more (s := segS 31 5 u1 vs1 l0) K
  clear hv K
  go_wp2_with fail
  refine (toByteSS_any _ l1 _ (hs1.up H.bel) hbl1 hbs1).mono ?_
  rintro e w2 ⟨u2, vs2, rfl, hv, K⟩
  have HVu2 := Lib.hid hv
  replace H := H.more (s := segS 31 5 u2 vs2 l1) K
  clear hv K
  go_wp2_with fail
  refine (specTreeSameB_any _ _ l0 l1 _ (H.slS 31 5 HVu1.out (.tail _ (.head _))) (H.slS 31 5 HVu2.out (.head _))  ).mono ?_
  rw [← HB0.out]
  rintro e w3 ⟨rfl, hb⟩
  replace H := H.up hb
  clear hb
  replace H := H.sub (qs := []) (.cons _ (.cons _ .slnil))
  go_wp2_with fail
  refine (toByteSS_any _ l0 _ (hs0.up H.bel) hbl0 hbs0).mono ?_
  rintro e w4 ⟨u4, vs4, rfl, hv, K⟩
  have HVu4 := Lib.hid hv
  replace H := H.more (s := segS 31 5 u4 vs4 l0) K
  clear hv K
  go_wp2_with fail
  refine (toByteSS_any _ l1 _ (hs1.up H.bel) hbl1 hbs1).mono ?_
  rintro e w5 ⟨u5, vs5, rfl, hv, K⟩
  have HVu5 := Lib.hid hv
  replace H := H.more (s := segS 31 5 u5 vs5 l1) K
  clear hv K
  go_wp2_with fail
  refine (implTreeSameB_any _ _ l0 l1 _ (H.slS 31 5 HVu4.out (.tail _ (.head _))) (H.slS 31 5 HVu5.out (.head _))  ).mono ?_
  rw [← HB0.out]
  rintro e w6 ⟨rfl, hb⟩
  replace H := H.up hb
  clear hb
  go_wp2_with fail
  refine (toByteSS_any _ l0 _ (hs0.up H.bel) hbl0 hbs0).mono ?_
  rintro e w7 ⟨u7, vs7, rfl, hv, K⟩
  have HVu7 := Lib.hid hv
  replace H := H.more (s := segS 31 5 u7 vs7 l0) K
  clear hv K
  go_wp2_with fail
  refine (eqByteSS_any _ _ l0 _ (H.slS 31 5 HVu4.out (.tail _ (.tail _ (.head _)))) (H.slS 31 5 HVu7.out (.head _))).mono ?_
  rintro e _ ⟨rfl, d8, rfl⟩
  replace H := H.drewN d8
  replace H := H.sub (qs := [segS 31 5 u5 vs5 l1, segS 31 5 u4 vs4 l0]) (.cons _ (.cons_cons _ (.cons_cons _ .slnil)))
  go_wp2_with fail
  refine (toByteSS_any _ l1 _ (hs1.up H.bel) hbl1 hbs1).mono ?_
  rintro e w9 ⟨u9, vs9, rfl, hv, K⟩
  have HVu9 := Lib.hid hv
  replace H := H.more (s := segS 31 5 u9 vs9 l1) K
  clear hv K
  go_wp2_with fail
  refine (eqByteSS_any _ _ l1 _ (H.slS 31 5 HVu5.out (.tail _ (.head _))) (H.slS 31 5 HVu9.out (.head _))).mono ?_
  rintro e _ ⟨rfl, d10, rfl⟩
  replace H := H.drewN d10
  replace H := H.sub (qs := [segS 31 5 u5 vs5 l1, segS 31 5 u4 vs4 l0]) (.cons _ (.cons_cons _ (.cons_cons _ .slnil)))
  go_wp2_with fail
  go_ret
  exact ⟨rfl, by have hfin := H.bel; simpa using hfin⟩
end Go.Proofs.Ytpnfdngacipfgaa
