/- The walk of the exact law of ConsOk: for every argument the law answers true and leaves all memory that was there as it was. -/
import Derived.Test.YtlchadbbldkkfaaDoorConsOk
import Derived.Test.YtlchadbbldkkfaaDoorStackBase
import Derived.Deep.RegionHeld3
namespace Go.Proofs.YtlchadbbldkkfaaDoor
open Go.ChangeShapes Go.WideShapes Go.ChangeAt Go.RowKit

set_option maxRecDepth 100000 in
set_option maxHeartbeats 8000000 in
theorem ConsOk_walk (n0 : Int) (n1 : Int) (v2 : Value) (l2 : List UInt8) (v3 : Value) (l3 : List UInt8) (v4 : Value) (l4 : List (List UInt8)) (W : World)   (h2 : Sl W W.heap.size v2 l2) (h3 : Sl W W.heap.size v3 l3) (h4 : SlS W W.heap.size v4 l4) (hgI : Glob W 0 initW) (hg : Glob W 1 kk) :
    Calls Tryd.prog 9 #[.int .i64 n0, .int .i64 n1, v2, v3, v4] W (Yes W) := by
  have hs2 := h2
  obtain ⟨A2, c2, rfl, p2, q2, r2, z2⟩ := h2
  unfold maxLen at q2
  clear r2 z2
  have hs3 := h3
  obtain ⟨A3, c3, rfl, p3, q3, r3, z3⟩ := h3
  unfold maxLen at q3
  clear r3 z3
  have hs4 := h4
  obtain ⟨A4, c4, rfl, p4, q4, r4, z4⟩ := h4
  unfold maxLen at q4
  clear r4 z4
  by_cases hbig2 : 1048576 < l2.length
  · have hb : (1048576 : Int) < (l2.length : Int) := by omega
    go_enter Tryd.func9, Tryd.ntmps9
    go_wp2
    go_ret
    exact ⟨rfl, by first | exact Below.refl _ _ | exact (Below.refl _ _).alloc (Nat.le_refl _) _⟩
  have hb2 : ¬ ((1048576 : Int) < (l2.length : Int)) := by omega
  by_cases hbig3 : 1048576 < l3.length
  · have hb : (1048576 : Int) < (l3.length : Int) := by omega
    go_enter Tryd.func9, Tryd.ntmps9
    go_wp2
    go_ret
    exact ⟨rfl, by first | exact Below.refl _ _ | exact (Below.refl _ _).alloc (Nat.le_refl _) _⟩
  have hb3 : ¬ ((1048576 : Int) < (l3.length : Int)) := by omega
  by_cases hbig : 1048576 < (l4.length : Int) + (sumL l4 : Int)
  · have HZ : Hid (szZ l4 1048576 = -1) := Lib.hid (by unfold szZ; rw [if_pos hbig])
    clear hbig
    have H : InvF W W [] := InvF.start W
    go_enter Tryd.func9, Tryd.ntmps9
    go_wp2_with fail
    refine (szByteSS_any _ l4 1048576 _ (hs4.up H.bel) (by omega) (by omega)).mono ?_
    rw [HZ.out]
    rintro e w' ⟨rfl, hw⟩
    obtain rfl : W = w' := hw.symm
    go_wp2
    go_ret
    exact ⟨rfl, H.bel⟩
  obtain ⟨zz, hz⟩ : ∃ z, z = 1048576 - ((l4.length : Int) + (sumL l4 : Int)) := ⟨_, rfl⟩
  have HZ : Hid (szZ l4 1048576 = zz) := Lib.hid (by unfold szZ; rw [if_neg hbig]; omega)
  have hzlo : 0 ≤ zz := by omega
  have hzhi : zz ≤ 1048576 := by omega
  have hzn : ¬ (zz < 0) := by omega
  have hL : l4.length ≤ 1048576 := by omega
  have hSm : sumL l4 ≤ 1048576 := by omega
  clear hbig hz
  obtain ⟨b0, hB⟩ : ∃ b, b = consOkB n0 n1 l2 l3 l4 := ⟨_, rfl⟩
  have HB0 := Lib.hid hB
  clear hB
  have hbb0 : (b0 != b0) = false := by simp
  have H : InvF W W [] := InvF.start W
  go_enter Tryd.func9, Tryd.ntmps9
  go_wp2_with fail
  refine (szByteSS_any _ l4 1048576 _ (hs4.up H.bel) (by omega) (by omega)).mono ?_
  rw [HZ.out]
  rintro e w' ⟨rfl, hw⟩
  obtain rfl : W = w' := hw.symm
  go_wp2_with fail
  refine (toByteS_any _ l2 _ (hs2.up H.bel) (by omega)).mono ?_
  rintro e w1 ⟨u1, rfl, ho, hb⟩
  replace H := H.moreB ho hb
  clear ho hb
  go_wp2_with fail
  refine (toByteS_any _ l3 _ (hs3.up H.bel) (by omega)).mono ?_
  rintro e w2 ⟨u2, rfl, ho, hb⟩
  replace H := H.moreB ho hb
  clear ho hb
  go_wp2_with fail
  refine (toByteSS_any _ l4 _ (hs4.up H.bel) hL hSm).mono ?_
  rintro e w3 ⟨u3, vs3, rfl, hvv, K⟩
  have HV3 := Lib.hid hvv
  replace H := H.more (s := segS 22 5 u3 vs3 l4) K
  clear hvv K
  go_wp2_with fail
  refine (specConsOk_any _ _ _ n0 n1 l2 l3 l4 _ (H.slB 5 (.tail _ (.tail _ (.head _)))) (H.slB 5 (.tail _ (.head _))) (H.slS 22 5 HV3.out (.head _))  ).mono ?_
  rw [← HB0.out]
  rintro e w4 ⟨rfl, hb⟩
  replace H := H.up hb
  clear hb
  replace H := H.sub (qs := []) (.cons _ (.cons _ (.cons _ .slnil)))
  go_wp2_with fail
  refine (toByteS_any _ l2 _ (hs2.up H.bel) (by omega)).mono ?_
  rintro e w5 ⟨u5, rfl, ho, hb⟩
  replace H := H.moreB ho hb
  clear ho hb
  go_wp2_with fail
  refine (toByteS_any _ l3 _ (hs3.up H.bel) (by omega)).mono ?_
  rintro e w6 ⟨u6, rfl, ho, hb⟩
  replace H := H.moreB ho hb
  clear ho hb
  go_wp2_with fail
  refine (toByteSS_any _ l4 _ (hs4.up H.bel) hL hSm).mono ?_
  rintro e w7 ⟨u7, vs7, rfl, hvv, K⟩
  have HV7 := Lib.hid hvv
  replace H := H.more (s := segS 22 5 u7 vs7 l4) K
  clear hvv K
  go_wp2_with fail
  refine (implConsOk_any _ _ _ n0 n1 l2 l3 l4 _ (H.slB 5 (.tail _ (.tail _ (.head _)))) (H.slB 5 (.tail _ (.head _))) (H.slS 22 5 HV7.out (.head _))  (hgI.up H.bel) (hg.up H.bel)).mono ?_
  rw [← HB0.out]
  rintro e w8 ⟨rfl, hb⟩
  replace H := H.up hb
  clear hb
  go_wp2_with fail
  refine (toByteS_any _ l2 _ (hs2.up H.bel) (by omega)).mono ?_
  rintro e w9 ⟨u9, rfl, ho, hb⟩
  replace H := H.moreB ho hb
  clear ho hb
  go_wp2_with fail
  refine (eqByteS_any _ _ l2 _ (H.slB 5 (.tail _ (.tail _ (.tail _ (.head _))))) (H.slB 5 (.head _))).mono ?_
  rintro e _ ⟨rfl, d10, rfl⟩
  replace H := H.drewN d10
  replace H := H.sub (qs := [segS 22 5 u7 vs7 l4, segB 5 u6 l3, segB 5 u5 l2]) (.cons _ (.cons_cons _ (.cons_cons _ (.cons_cons _ .slnil))))
  go_wp2_with fail
  refine (toByteS_any _ l3 _ (hs3.up H.bel) (by omega)).mono ?_
  rintro e w11 ⟨u11, rfl, ho, hb⟩
  replace H := H.moreB ho hb
  clear ho hb
  go_wp2_with fail
  refine (eqByteS_any _ _ l3 _ (H.slB 5 (.tail _ (.tail _ (.head _)))) (H.slB 5 (.head _))).mono ?_
  rintro e _ ⟨rfl, d12, rfl⟩
  replace H := H.drewN d12
  replace H := H.sub (qs := [segS 22 5 u7 vs7 l4, segB 5 u6 l3, segB 5 u5 l2]) (.cons _ (.cons_cons _ (.cons_cons _ (.cons_cons _ .slnil))))
  go_wp2_with fail
  refine (toByteSS_any _ l4 _ (hs4.up H.bel) hL hSm).mono ?_
  rintro e w13 ⟨u13, vs13, rfl, hvv, K⟩
  have HV13 := Lib.hid hvv
  replace H := H.more (s := segS 22 5 u13 vs13 l4) K
  clear hvv K
  go_wp2_with fail
  refine (eqByteSS_any _ _ l4 _ (H.slS 22 5 HV7.out (.tail _ (.head _))) (H.slS 22 5 HV13.out (.head _))).mono ?_
  rintro e _ ⟨rfl, d14, rfl⟩
  replace H := H.drewN d14
  replace H := H.sub (qs := [segS 22 5 u7 vs7 l4, segB 5 u6 l3, segB 5 u5 l2]) (.cons _ (.cons_cons _ (.cons_cons _ (.cons_cons _ .slnil))))
  go_wp2_with fail
  go_ret
  exact ⟨rfl, by have hfin := H.bel; simpa using hfin⟩
end Go.Proofs.YtlchadbbldkkfaaDoor
