/- The walk of the exact law of ConsRoots: for every argument the law answers true and leaves all memory that was there as it was. -/
import Derived.Test.YtlchadbbldkkfaaDoorConsRoots
import Derived.Test.YtlchadbbldkkfaaDoorStackBase
import Derived.Deep.RegionHeld3
namespace Go.Proofs.YtlchadbbldkkfaaDoor
open Go.ChangeShapes Go.WideShapes Go.ChangeAt Go.RowKit

set_option maxRecDepth 100000 in
set_option maxHeartbeats 8000000 in
theorem ConsRoots_walk (n0 : Int) (n1 : Int) (v2 : Value) (l2 : List UInt8) (v3 : Value) (l3 : List (List UInt8)) (W : World)   (h2 : Sl W W.heap.size v2 l2) (h3 : SlS W W.heap.size v3 l3) (hgI : Glob W 0 initW) (hg : Glob W 1 kk) :
    Calls Tryd.prog 8 #[.int .i64 n0, .int .i64 n1, v2, v3] W (Yes W) := by
  have hs2 := h2
  obtain ⟨A2, c2, rfl, p2, q2, r2, z2⟩ := h2
  unfold maxLen at q2
  clear r2 z2
  have hs3 := h3
  obtain ⟨A3, c3, rfl, p3, q3, r3, z3⟩ := h3
  unfold maxLen at q3
  clear r3 z3
  by_cases hbig2 : 1048576 < l2.length
  · have hb : (1048576 : Int) < (l2.length : Int) := by omega
    go_enter Tryd.func8, Tryd.ntmps8
    go_wp2
    go_ret
    exact ⟨rfl, by first | exact Below.refl _ _ | exact (Below.refl _ _).alloc (Nat.le_refl _) _⟩
  have hb2 : ¬ ((1048576 : Int) < (l2.length : Int)) := by omega
  by_cases hbig : 1048576 < (l3.length : Int) + (sumL l3 : Int)
  · have HZ : Hid (szZ l3 1048576 = -1) := Lib.hid (by unfold szZ; rw [if_pos hbig])
    clear hbig
    have H : InvF W W [] := InvF.start W
    go_enter Tryd.func8, Tryd.ntmps8
    go_wp2_with fail
    refine (szByteSS_any _ l3 1048576 _ (hs3.up H.bel) (by omega) (by omega)).mono ?_
    rw [HZ.out]
    rintro e w' ⟨rfl, hw⟩
    obtain rfl : W = w' := hw.symm
    go_wp2
    go_ret
    exact ⟨rfl, H.bel⟩
  obtain ⟨zz, hz⟩ : ∃ z, z = 1048576 - ((l3.length : Int) + (sumL l3 : Int)) := ⟨_, rfl⟩
  have HZ : Hid (szZ l3 1048576 = zz) := Lib.hid (by unfold szZ; rw [if_neg hbig]; omega)
  have hzlo : 0 ≤ zz := by omega
  have hzhi : zz ≤ 1048576 := by omega
  have hzn : ¬ (zz < 0) := by omega
  have hL : l3.length ≤ 1048576 := by omega
  have hSm : sumL l3 ≤ 1048576 := by omega
  clear hbig hz
  have hp := rootsON_len n0 n1 l2 l3
  obtain ⟨R, hR⟩ : ∃ R, R = rootsO n0 n1 l2 l3 := ⟨_, rfl⟩
  obtain ⟨R2, hR2⟩ : ∃ R, R = rootsN n0 n1 l2 l3 := ⟨_, rfl⟩
  rw [← hR, ← hR2] at hp
  obtain ⟨hp, hp2⟩ := hp
  have HR := Lib.hid hR
  have HR2 := Lib.hid hR2
  clear hR hR2
  obtain ⟨b0, hB⟩ : ∃ b, b = rootsB n0 n1 l2 l3 := ⟨_, rfl⟩
  have HB0 := Lib.hid hB
  clear hB
  have hbb0 : (b0 != b0) = false := by simp
  have H : InvF W W [] := InvF.start W
  go_enter Tryd.func8, Tryd.ntmps8
  go_wp2_with fail
  refine (szByteSS_any _ l3 1048576 _ (hs3.up H.bel) (by omega) (by omega)).mono ?_
  rw [HZ.out]
  rintro e w' ⟨rfl, hw⟩
  obtain rfl : W = w' := hw.symm
  go_wp2_with fail
  refine (toByteS_any _ l2 _ (hs2.up H.bel) (by omega)).mono ?_
  rintro e w1 ⟨u1, rfl, ho, hb⟩
  replace H := H.moreB ho hb
  clear ho hb
  go_wp2_with fail
  refine (toByteSS_any _ l3 _ (hs3.up H.bel) hL hSm).mono ?_
  rintro e w2 ⟨u2, vs2, rfl, hvv, K⟩
  have HV2 := Lib.hid hvv
  replace H := H.more (s := segS 22 5 u2 vs2 l3) K
  clear hvv K
  go_wp2_with fail
  refine (specConsRoots_any _ _ n0 n1 l2 l3 _ (H.slB 5 (.tail _ (.head _))) (H.slS 22 5 HV2.out (.head _))  ).mono ?_
  rw [← HR.out, ← HR2.out, ← HB0.out]
  rintro e w3 ⟨u3, u3z, rfl, K⟩
  replace H := H.moreF (qs := [segB 5 u3 R, segB 5 u3z R2]) K
  clear K
  replace H : InvF W w3 [segB 5 u3 R, segB 5 u3z R2, segS 22 5 u2 vs2 l3, segB 5 u1 l2] := H
  replace H := H.sub (qs := [segB 5 u3 R, segB 5 u3z R2]) (.cons_cons _ (.cons_cons _ (.cons _ (.cons _ .slnil))))
  go_wp2_with fail
  refine (toByteS_any _ l2 _ (hs2.up H.bel) (by omega)).mono ?_
  rintro e w4 ⟨u4, rfl, ho, hb⟩
  replace H := H.moreB ho hb
  clear ho hb
  go_wp2_with fail
  refine (toByteSS_any _ l3 _ (hs3.up H.bel) hL hSm).mono ?_
  rintro e w5 ⟨u5, vs5, rfl, hvv, K⟩
  have HV5 := Lib.hid hvv
  replace H := H.more (s := segS 22 5 u5 vs5 l3) K
  clear hvv K
  go_wp2_with fail
  refine (implConsRoots_any _ _ n0 n1 l2 l3 _ (H.slB 5 (.tail _ (.head _))) (H.slS 22 5 HV5.out (.head _))  (hgI.up H.bel) (hg.up H.bel)).mono ?_
  rw [← HR.out, ← HR2.out, ← HB0.out]
  rintro e w6 ⟨u6, u6z, rfl, K⟩
  replace H := H.moreF (qs := [segB 5 u6 R, segB 5 u6z R2]) K
  clear K
  replace H : InvF W w6 [segB 5 u6 R, segB 5 u6z R2, segS 22 5 u5 vs5 l3, segB 5 u4 l2, segB 5 u3 R, segB 5 u3z R2] := H
  go_wp2_with fail
  refine (eqByteS_any _ _ R _ (H.slB 5 (.head _)) (H.slB 5 (.tail _ (.tail _ (.tail _ (.tail _ (.head _))))))).mono ?_
  rintro e _ ⟨rfl, d7, rfl⟩
  replace H := H.drewN d7
  try rw [World.drewN_drewN] at H
  go_wp2_with fail
  refine (eqByteS_any _ _ R2 _ (H.slB 5 (.tail _ (.head _))) (H.slB 5 (.tail _ (.tail _ (.tail _ (.tail _ (.tail _ (.head _)))))))).mono ?_
  rintro e _ ⟨rfl, d8, rfl⟩
  replace H := H.drewN d8
  try rw [World.drewN_drewN] at H
  go_wp2_with fail
  refine (toByteS_any _ l2 _ (hs2.up H.bel) (by omega)).mono ?_
  rintro e w9 ⟨u9, rfl, ho, hb⟩
  replace H := H.moreB ho hb
  clear ho hb
  go_wp2_with fail
  refine (eqByteS_any _ _ l2 _ (H.slB 5 (.tail _ (.tail _ (.tail _ (.tail _ (.head _)))))) (H.slB 5 (.head _))).mono ?_
  rintro e _ ⟨rfl, d10, rfl⟩
  replace H := H.drewN d10
  try rw [World.drewN_drewN] at H
  replace H := H.sub (qs := [segB 5 u6 R, segB 5 u6z R2, segS 22 5 u5 vs5 l3, segB 5 u4 l2, segB 5 u3 R, segB 5 u3z R2]) (.cons _ (.cons_cons _ (.cons_cons _ (.cons_cons _ (.cons_cons _ (.cons_cons _ (.cons_cons _ .slnil)))))))
  go_wp2_with fail
  refine (toByteSS_any _ l3 _ (hs3.up H.bel) hL hSm).mono ?_
  rintro e w11 ⟨u11, vs11, rfl, hvv, K⟩
  have HV11 := Lib.hid hvv
  replace H := H.more (s := segS 22 5 u11 vs11 l3) K
  clear hvv K
  go_wp2_with fail
  refine (eqByteSS_any _ _ l3 _ (H.slS 22 5 HV5.out (.tail _ (.tail _ (.tail _ (.head _))))) (H.slS 22 5 HV11.out (.head _))).mono ?_
  rintro e _ ⟨rfl, d12, rfl⟩
  replace H := H.drewN d12
  try rw [World.drewN_drewN] at H
  replace H := H.sub (qs := [segB 5 u6 R, segB 5 u6z R2, segS 22 5 u5 vs5 l3, segB 5 u4 l2, segB 5 u3 R, segB 5 u3z R2]) (.cons _ (.cons_cons _ (.cons_cons _ (.cons_cons _ (.cons_cons _ (.cons_cons _ (.cons_cons _ .slnil)))))))
  replace H : InvF W _ [segB 5 u4 l2, segB 5 u6 R, segB 5 u6z R2, segS 22 5 u5 vs5 l3, segB 5 u3 R, segB 5 u3z R2] := H.front 3 rfl
  go_wp2_with fail
  refine (markByteS_z _ l2 (1) _ _ _ (H.ownB 5 (.head _)) rfl (by omega) (by omega)).mono ?_
  rintro e w13 ⟨rfl, ho, hg⟩
  replace H := H.wroteB ho hg
  clear ho hg
  replace H : InvF W _ [segS 22 5 u5 vs5 l3, segB 5 u4 (marks (1) l2.length), segB 5 u6 R, segB 5 u6z R2, segB 5 u3 R, segB 5 u3z R2] := H.front 3 rfl
  go_wp2_with fail
  refine (markByteSS_z W _ _ _ l3 _ (1 + l2.length) _ HV5.out H (by simp) (by omega) (by omega)).mono ?_
  rintro e w14 ⟨rfl, K⟩
  replace H := K
  clear K
  have HV14 : Hid (vs5.length = (marksS (1 + l2.length) l3).length) := Lib.hid (HV5.out.trans (marksS_length _ _).symm)
  have hltk : ¬ ((1 : Int) + (l2.length : Int) + (sumL l3 : Int) < 0) := by omega
  go_wp2_with fail
  refine (eqByteS_any _ _ R _ (H.slB 5 (.tail _ (.tail _ (.head _)))) (H.slB 5 (.tail _ (.tail _ (.tail _ (.tail _ (.head _))))))).mono ?_
  rintro e _ ⟨rfl, d15, rfl⟩
  replace H := H.drewN d15
  try rw [World.drewN_drewN] at H
  go_wp2_with fail
  refine (eqByteS_any _ _ R2 _ (H.slB 5 (.tail _ (.tail _ (.tail _ (.head _))))) (H.slB 5 (.tail _ (.tail _ (.tail _ (.tail _ (.tail _ (.head _)))))))).mono ?_
  rintro e _ ⟨rfl, d16, rfl⟩
  replace H := H.drewN d16
  try rw [World.drewN_drewN] at H
  replace H := H.sub (qs := [segB 5 u6 R, segB 5 u6z R2, segB 5 u3 R, segB 5 u3z R2]) (.cons _ (.cons _ (.cons_cons _ (.cons_cons _ (.cons_cons _ (.cons_cons _ .slnil))))))
  go_wp2_with fail
  refine (markByteS_z _ R (1) _ _ _ (H.ownB 5 (.head _)) rfl (by omega) (by omega)).mono ?_
  rintro e w17 ⟨rfl, ho, hg⟩
  replace H := H.wroteB ho hg
  clear ho hg
  replace H : InvF W _ [segB 5 u6z R2, segB 5 u6 (marks (1) R.length), segB 5 u3 R, segB 5 u3z R2] := H.front 1 rfl
  go_wp2_with fail
  refine (markByteS_z _ R2 (1 + R.length) _ _ _ (H.ownB 5 (.head _)) (by simp) (by omega) (by omega)).mono ?_
  rintro e w18 ⟨rfl, ho, hg⟩
  replace H := H.wroteB ho hg
  clear ho hg
  go_wp2_with fail
  refine (heldByteS_z _ 1 R.length _ _ (H.slB 5 (.tail _ (.head _))) rfl (by omega) (by omega)).mono ?_
  rintro e _ ⟨rfl, d19, rfl⟩
  replace H := H.drewN d19
  try rw [World.drewN_drewN] at H
  have hltM : ¬ ((1 : Int) + (R.length : Int) < 0) := by omega
  go_wp2_with fail
  refine (heldByteS_z _ (1 + R.length) R2.length _ _ (H.slB 5 (.head _)) (by simp) (by omega) (by omega)).mono ?_
  rintro e _ ⟨rfl, d20, rfl⟩
  replace H := H.drewN d20
  try rw [World.drewN_drewN] at H
  have hltL : ¬ ((1 : Int) + (R.length : Int) + (R2.length : Int) < 0) := by omega
  have hneL : ((1 : Int) + (R.length : Int) + (R2.length : Int) != 1 + (R.length : Int) + (R2.length : Int)) = false := by simp
  go_wp2_with fail
  refine (toByteS_any _ l2 _ (hs2.up H.bel) (by omega)).mono ?_
  rintro e w21 ⟨u21, rfl, ho, hb⟩
  replace H := H.moreB ho hb
  clear ho hb
  go_wp2_with fail
  refine (toByteSS_any _ l3 _ (hs3.up H.bel) hL hSm).mono ?_
  rintro e w22 ⟨u22, vs22, rfl, hvv, K⟩
  have HV22 := Lib.hid hvv
  replace H := H.more (s := segS 22 5 u22 vs22 l3) K
  clear hvv K
  go_wp2_with fail
  refine (implConsRoots_any _ _ n0 n1 l2 l3 _ (H.slB 5 (.tail _ (.head _))) (H.slS 22 5 HV22.out (.head _))  (hgI.up H.bel) (hg.up H.bel)).mono ?_
  rw [← HR.out, ← HR2.out, ← HB0.out]
  rintro e w23 ⟨u23, u23z, rfl, K⟩
  replace H := H.moreF (qs := [segB 5 u23 R, segB 5 u23z R2]) K
  clear K
  replace H : InvF W w23 [segB 5 u23 R, segB 5 u23z R2, segS 22 5 u22 vs22 l3, segB 5 u21 l2, segB 5 u6z (marks (1 + R.length) R2.length), segB 5 u6 (marks (1) R.length), segB 5 u3 R, segB 5 u3z R2] := H
  go_wp2_with fail
  refine (eqByteS_any _ _ R _ (H.slB 5 (.head _)) (H.slB 5 (.tail _ (.tail _ (.tail _ (.tail _ (.tail _ (.tail _ (.head _))))))))).mono ?_
  rintro e _ ⟨rfl, d24, rfl⟩
  replace H := H.drewN d24
  try rw [World.drewN_drewN] at H
  go_wp2_with fail
  refine (eqByteS_any _ _ R2 _ (H.slB 5 (.tail _ (.head _))) (H.slB 5 (.tail _ (.tail _ (.tail _ (.tail _ (.tail _ (.tail _ (.tail _ (.head _)))))))))).mono ?_
  rintro e _ ⟨rfl, d25, rfl⟩
  replace H := H.drewN d25
  try rw [World.drewN_drewN] at H
  go_wp2_with fail
  refine (heldByteS_z _ 1 R.length _ _ (H.slB 5 (.tail _ (.tail _ (.tail _ (.tail _ (.tail _ (.head _))))))) rfl (by omega) (by omega)).mono ?_
  rintro e _ ⟨rfl, d26, rfl⟩
  replace H := H.drewN d26
  try rw [World.drewN_drewN] at H
  go_wp2_with fail
  refine (heldByteS_z _ (1 + R.length) R2.length _ _ (H.slB 5 (.tail _ (.tail _ (.tail _ (.tail _ (.head _)))))) (by simp) (by omega) (by omega)).mono ?_
  rintro e _ ⟨rfl, d27, rfl⟩
  replace H := H.drewN d27
  try rw [World.drewN_drewN] at H
  go_wp2_with fail
  go_ret
  exact ⟨rfl, by have hfin := H.bel; simpa using hfin⟩
end Go.Proofs.YtlchadbbldkkfaaDoor
