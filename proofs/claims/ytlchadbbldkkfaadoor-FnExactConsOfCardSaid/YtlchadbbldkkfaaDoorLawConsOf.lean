/- The walk of the exact law of ConsOf: for every argument the law answers true and leaves all memory that was there as it was. -/
import Derived.Test.YtlchadbbldkkfaaDoorConsOf
import Derived.Test.YtlchadbbldkkfaaDoorStackBase
import Derived.Deep.RegionHeld3
namespace Go.Proofs.YtlchadbbldkkfaaDoor
open Go.ChangeShapes Go.WideShapes Go.ChangeAt Go.RowKit

set_option maxRecDepth 100000 in
set_option maxHeartbeats 8000000 in
theorem ConsOf_walk (v0 : Value) (l0 : List (List UInt8)) (n1 : Int) (W : World) (h0 : SlS W W.heap.size v0 l0)  (hgI : Glob W 0 initW) (hg : Glob W 1 kk) :
    Calls Tryd.prog 7 #[v0, .int .i64 n1] W (Yes W) := by
  have hs0 := h0
  obtain ⟨A0, c0, rfl, p0, q0, r0, z0⟩ := h0
  unfold maxLen at q0
  clear r0 z0
  by_cases hbig : 1048576 < (l0.length : Int) + (sumL l0 : Int)
  · have HZ : Hid (szZ l0 1048576 = -1) := Lib.hid (by unfold szZ; rw [if_pos hbig])
    clear hbig
    have H : InvF W W [] := InvF.start W
    go_enter Tryd.func7, Tryd.ntmps7
    go_wp2_with fail
    refine (szByteSS_any _ l0 1048576 _ (hs0.up H.bel) (by omega) (by omega)).mono ?_
    rw [HZ.out]
    rintro e w' ⟨rfl, hw⟩
    obtain rfl : W = w' := hw.symm
    go_wp2
    go_ret
    exact ⟨rfl, H.bel⟩
  obtain ⟨zz, hz⟩ : ∃ z, z = 1048576 - ((l0.length : Int) + (sumL l0 : Int)) := ⟨_, rfl⟩
  have HZ : Hid (szZ l0 1048576 = zz) := Lib.hid (by unfold szZ; rw [if_neg hbig]; omega)
  have hzlo : 0 ≤ zz := by omega
  have hzhi : zz ≤ 1048576 := by omega
  have hzn : ¬ (zz < 0) := by omega
  have hL : l0.length ≤ 1048576 := by omega
  have hSm : sumL l0 ≤ 1048576 := by omega
  clear hbig hz
  have hp : (ofC l0 n1).length ≤ 1048576 ∧ sumL (ofC l0 n1) ≤ 1073741824 := by have := ofC_small l0 n1 hL; omega
  obtain ⟨R, hR⟩ : ∃ R, R = ofC l0 n1 := ⟨_, rfl⟩
  rw [← hR] at hp
  obtain ⟨hp, hpS⟩ := hp
  have HR := Lib.hid hR
  clear hR
  obtain ⟨b0, hB⟩ : ∃ b, b = prefB n1 l0.length := ⟨_, rfl⟩
  have HB0 := Lib.hid hB
  clear hB
  have hbb0 : (b0 != b0) = false := by simp
  have H : InvF W W [] := InvF.start W
  go_enter Tryd.func7, Tryd.ntmps7
  go_wp2_with fail
  refine (szByteSS_any _ l0 1048576 _ (hs0.up H.bel) (by omega) (by omega)).mono ?_
  rw [HZ.out]
  rintro e w' ⟨rfl, hw⟩
  obtain rfl : W = w' := hw.symm
  go_wp2_with fail
  refine (toByteSS_any _ l0 _ (hs0.up H.bel) hL hSm).mono ?_
  rintro e w1 ⟨u1, vs1, rfl, hvv, K⟩
  have HV1 := Lib.hid hvv
  replace H := H.more (s := segS 22 5 u1 vs1 l0) K
  clear hvv K
  go_wp2_with fail
  refine (specConsOf_any _ l0 n1 _ (H.slS 22 5 HV1.out (.head _)) (by omega) (by omega) ).mono ?_
  rw [← HR.out, ← HB0.out]
  rintro e w2 ⟨u2, vs2, rfl, hvv, K⟩
  have HV2 := Lib.hid hvv
  replace H := H.more (s := segS 22 5 u2 vs2 R) K
  clear hvv K
  replace H := H.sub (qs := [segS 22 5 u2 vs2 R]) (.cons_cons _ (.cons _ .slnil))
  go_wp2_with fail
  refine (toByteSS_any _ l0 _ (hs0.up H.bel) hL hSm).mono ?_
  rintro e w3 ⟨u3, vs3, rfl, hvv, K⟩
  have HV3 := Lib.hid hvv
  replace H := H.more (s := segS 22 5 u3 vs3 l0) K
  clear hvv K
  go_wp2_with fail
  refine (implConsOf_any _ l0 n1 _ (H.slS 22 5 HV3.out (.head _)) (by omega) (by omega) (hgI.up H.bel) (hg.up H.bel)).mono ?_
  rw [← HR.out, ← HB0.out]
  rintro e w4 ⟨u4, vs4, rfl, hvv, K⟩
  have HV4 := Lib.hid hvv
  replace H := H.more (s := segS 22 5 u4 vs4 R) K
  clear hvv K
  go_wp2_with fail
  refine (eqByteSS_any _ _ R _ (H.slS 22 5 HV4.out (.head _)) (H.slS 22 5 HV2.out (.tail _ (.tail _ (.head _))))).mono ?_
  rintro e _ ⟨rfl, d5, rfl⟩
  replace H := H.drewN d5
  go_wp2_with fail
  refine (toByteSS_any _ l0 _ (hs0.up H.bel) hL hSm).mono ?_
  rintro e w6 ⟨u6, vs6, rfl, hvv, K⟩
  have HV6 := Lib.hid hvv
  replace H := H.more (s := segS 22 5 u6 vs6 l0) K
  clear hvv K
  go_wp2_with fail
  refine (eqByteSS_any _ _ l0 _ (H.slS 22 5 HV3.out (.tail _ (.tail _ (.head _)))) (H.slS 22 5 HV6.out (.head _))).mono ?_
  rintro e _ ⟨rfl, d7, rfl⟩
  replace H := H.drewN d7
  replace H := H.sub (qs := [segS 22 5 u4 vs4 R, segS 22 5 u3 vs3 l0, segS 22 5 u2 vs2 R]) (.cons _ (.cons_cons _ (.cons_cons _ (.cons_cons _ .slnil))))
  replace H : InvF W _ [segS 22 5 u3 vs3 l0, segS 22 5 u4 vs4 R, segS 22 5 u2 vs2 R] := H.front 1 rfl
  go_wp2_with fail
  refine (markByteSS_z W _ _ _ l0 _ (1) _ HV3.out H rfl (by omega) (by omega)).mono ?_
  rintro e w8 ⟨rfl, K⟩
  replace H := K
  clear K
  have HV8 : Hid (vs3.length = (marksS (1) l0).length) := Lib.hid (HV3.out.trans (marksS_length _ _).symm)
  have hltk : ¬ ((1 : Int) + (sumL l0 : Int) < 0) := by omega
  go_wp2_with fail
  refine (eqByteSS_any _ _ R _ (H.slS 22 5 HV4.out (.tail _ (.head _))) (H.slS 22 5 HV2.out (.tail _ (.tail _ (.head _))))).mono ?_
  rintro e _ ⟨rfl, d9, rfl⟩
  replace H := H.drewN d9
  replace H := H.sub (qs := [segS 22 5 u4 vs4 R, segS 22 5 u2 vs2 R]) (.cons _ (.cons_cons _ (.cons_cons _ .slnil)))
  go_wp2_with fail
  refine (markByteSS_z W _ _ _ R _ (1) _ HV4.out H rfl (by omega) (by omega)).mono ?_
  rintro e w10 ⟨rfl, K⟩
  replace H := K
  clear K
  have HV10 : Hid (vs4.length = (marksS (1) R).length) := Lib.hid (HV4.out.trans (marksS_length _ _).symm)
  go_wp2_with fail
  refine (heldByteSS_z _ 1 R _ _ (H.slS 22 5 HV10.out (.head _)) rfl (by omega) (by omega)).mono ?_
  rintro e _ ⟨rfl, d11, rfl⟩
  replace H := H.drewN d11
  have hltL : ¬ ((1 : Int) + (sumL R : Int) < 0) := by omega
  have hneL : ((1 : Int) + (sumL R : Int) != 1 + (sumL R : Int)) = false := by simp
  go_wp2_with fail
  refine (toByteSS_any _ l0 _ (hs0.up H.bel) hL hSm).mono ?_
  rintro e w12 ⟨u12, vs12, rfl, hvv, K⟩
  have HV12 := Lib.hid hvv
  replace H := H.more (s := segS 22 5 u12 vs12 l0) K
  clear hvv K
  go_wp2_with fail
  refine (implConsOf_any _ l0 n1 _ (H.slS 22 5 HV12.out (.head _)) (by omega) (by omega) (hgI.up H.bel) (hg.up H.bel)).mono ?_
  rw [← HR.out, ← HB0.out]
  rintro e w13 ⟨u13, vs13, rfl, hvv, K⟩
  have HV13 := Lib.hid hvv
  replace H := H.more (s := segS 22 5 u13 vs13 R) K
  clear hvv K
  go_wp2_with fail
  refine (eqByteSS_any _ _ R _ (H.slS 22 5 HV13.out (.head _)) (H.slS 22 5 HV2.out (.tail _ (.tail _ (.tail _ (.head _)))))).mono ?_
  rintro e _ ⟨rfl, d14, rfl⟩
  replace H := H.drewN d14
  go_wp2_with fail
  refine (heldByteSS_z _ 1 R _ _ (H.slS 22 5 HV10.out (.tail _ (.tail _ (.head _)))) rfl (by omega) (by omega)).mono ?_
  rintro e _ ⟨rfl, d15, rfl⟩
  replace H := H.drewN d15
  go_wp2_with fail
  go_ret
  exact ⟨rfl, by have hfin := H.bel; simpa using hfin⟩
end Go.Proofs.YtlchadbbldkkfaaDoor
