/- The walk of the exact law of PathRoot: for every argument the law answers true and leaves all memory that was there as it was. -/
import Derived.Test.YtlchadbbldkkfaaDoorPathRoot
import Derived.Test.YtlchadbbldkkfaaDoorStackBase
import Derived.Deep.RegionHeld3
namespace Go.Proofs.YtlchadbbldkkfaaDoor
open Go.ChangeShapes Go.WideShapes Go.ChangeAt Go.RowKit

set_option maxRecDepth 100000 in
set_option maxHeartbeats 8000000 in
theorem PathRoot_walk (v0 : Value) (l0 : List UInt8) (n1 : Int) (n2 : Int) (v3 : Value) (l3 : List (List UInt8)) (W : World) (h0 : Sl W W.heap.size v0 l0)   (h3 : SlS W W.heap.size v3 l3) (hgI : Glob W 0 initW) (hg : Glob W 1 kk) :
    Calls Tryd.prog 5 #[v0, .int .i64 n1, .int .i64 n2, v3] W (Yes W) := by
  have hs0 := h0
  obtain ⟨A0, c0, rfl, p0, q0, r0, z0⟩ := h0
  unfold maxLen at q0
  clear r0 z0
  have hs3 := h3
  obtain ⟨A3, c3, rfl, p3, q3, r3, z3⟩ := h3
  unfold maxLen at q3
  clear r3 z3
  by_cases hbig0 : 1048576 < l0.length
  · have hb : (1048576 : Int) < (l0.length : Int) := by omega
    go_enter Tryd.func5, Tryd.ntmps5
    go_wp2
    go_ret
    exact ⟨rfl, by first | exact Below.refl _ _ | exact (Below.refl _ _).alloc (Nat.le_refl _) _⟩
  have hb0 : ¬ ((1048576 : Int) < (l0.length : Int)) := by omega
  by_cases hbig : 1048576 < (l3.length : Int) + (sumL l3 : Int)
  · have HZ : Hid (szZ l3 1048576 = -1) := Lib.hid (by unfold szZ; rw [if_pos hbig])
    clear hbig
    have H : InvF W W [] := InvF.start W
    go_enter Tryd.func5, Tryd.ntmps5
    go_wp2_with fail
    refine (szByteSS_any _ l3 1048576 _ (hs3.up H.bel) (by omega) (by omega)).mono ?_
    rw [HZ.out]
    rintro e w' ⟨rfl, hw⟩
    obtain rfl : W = w' := hw.symm
    go_wp2
    go_ret
    exact ⟨rfl, H.bel⟩
  obtain ⟨zz, hz⟩ : ∃ z, z = 1048576 - ((l3.length : Int) + (sumL l3 : Int)) := ⟨_, rfl⟩
  have HZ : Hid (szZ l3 1048576 = zz) := Lib.hid (by unfold szZ; rw [if_neg hbig]; omega)
  have hzlo : 0 ≤ zz := by omega
  have hzhi : zz ≤ 1048576 := by omega
  have hzn : ¬ (zz < 0) := by omega
  have hL : l3.length ≤ 1048576 := by omega
  have hSm : sumL l3 ≤ 1048576 := by omega
  clear hbig hz
  have hp : (rootP l0 n1 n2 l3).length ≤ 1073741824 := by have := rootP_len l0 n1 n2 l3; omega
  obtain ⟨R, hR⟩ : ∃ R, R = rootP l0 n1 n2 l3 := ⟨_, rfl⟩
  rw [← hR] at hp
  have HR := Lib.hid hR
  clear hR
  obtain ⟨b0, hB⟩ : ∃ b, b = rootB l0 n1 n2 l3 := ⟨_, rfl⟩
  have HB0 := Lib.hid hB
  clear hB
  have hbb0 : (b0 != b0) = false := by simp
  have H : InvF W W [] := InvF.start W
  go_enter Tryd.func5, Tryd.ntmps5
  go_wp2_with fail
  refine (szByteSS_any _ l3 1048576 _ (hs3.up H.bel) (by omega) (by omega)).mono ?_
  rw [HZ.out]
  rintro e w' ⟨rfl, hw⟩
  obtain rfl : W = w' := hw.symm
  go_wp2_with fail
  refine (toByteS_any _ l0 _ (hs0.up H.bel) (by omega)).mono ?_
  rintro e w1 ⟨u1, rfl, ho, hb⟩
  replace H := H.moreB ho hb
  clear ho hb
  go_wp2_with fail
  refine (toByteSS_any _ l3 _ (hs3.up H.bel) hL hSm).mono ?_
  rintro e w2 ⟨u2, vs2, rfl, hvv, K⟩
  have HV2 := Lib.hid hvv
  replace H := H.more (s := segS 22 5 u2 vs2 l3) K
  clear hvv K
  go_wp2_with fail
  refine (specPathRoot_any _ _ l0 n1 n2 l3 _ (H.slB 5 (.tail _ (.head _))) (H.slS 22 5 HV2.out (.head _))  ).mono ?_
  rw [← HR.out, ← HB0.out]
  rintro e w3 ⟨u3, rfl, ho, hb⟩
  replace H := H.moreB ho hb
  clear ho hb
  replace H := H.sub (qs := [segB 5 u3 R]) (.cons_cons _ (.cons _ (.cons _ .slnil)))
  go_wp2_with fail
  refine (toByteS_any _ l0 _ (hs0.up H.bel) (by omega)).mono ?_
  rintro e w4 ⟨u4, rfl, ho, hb⟩
  replace H := H.moreB ho hb
  clear ho hb
  go_wp2_with fail
  refine (toByteSS_any _ l3 _ (hs3.up H.bel) hL hSm).mono ?_
  rintro e w5 ⟨u5, vs5, rfl, hvv, K⟩
  have HV5 := Lib.hid hvv
  replace H := H.more (s := segS 22 5 u5 vs5 l3) K
  clear hvv K
  go_wp2_with fail
  refine (implPathRoot_any _ _ l0 n1 n2 l3 _ (H.slB 5 (.tail _ (.head _))) (H.slS 22 5 HV5.out (.head _))  (hgI.up H.bel) (hg.up H.bel)).mono ?_
  rw [← HR.out, ← HB0.out]
  rintro e w6 ⟨u6, rfl, ho, hb⟩
  replace H := H.moreB ho hb
  clear ho hb
  go_wp2_with fail
  refine (eqByteS_any _ _ R _ (H.slB 5 (.head _)) (H.slB 5 (.tail _ (.tail _ (.tail _ (.head _)))))).mono ?_
  rintro e _ ⟨rfl, d7, rfl⟩
  replace H := H.drewN d7
  go_wp2_with fail
  refine (toByteS_any _ l0 _ (hs0.up H.bel) (by omega)).mono ?_
  rintro e w8 ⟨u8, rfl, ho, hb⟩
  replace H := H.moreB ho hb
  clear ho hb
  go_wp2_with fail
  refine (eqByteS_any _ _ l0 _ (H.slB 5 (.tail _ (.tail _ (.tail _ (.head _))))) (H.slB 5 (.head _))).mono ?_
  rintro e _ ⟨rfl, d9, rfl⟩
  replace H := H.drewN d9
  replace H := H.sub (qs := [segB 5 u6 R, segS 22 5 u5 vs5 l3, segB 5 u4 l0, segB 5 u3 R]) (.cons _ (.cons_cons _ (.cons_cons _ (.cons_cons _ (.cons_cons _ .slnil)))))
  go_wp2_with fail
  refine (toByteSS_any _ l3 _ (hs3.up H.bel) hL hSm).mono ?_
  rintro e w10 ⟨u10, vs10, rfl, hvv, K⟩
  have HV10 := Lib.hid hvv
  replace H := H.more (s := segS 22 5 u10 vs10 l3) K
  clear hvv K
  go_wp2_with fail
  refine (eqByteSS_any _ _ l3 _ (H.slS 22 5 HV5.out (.tail _ (.tail _ (.head _)))) (H.slS 22 5 HV10.out (.head _))).mono ?_
  rintro e _ ⟨rfl, d11, rfl⟩
  replace H := H.drewN d11
  replace H := H.sub (qs := [segB 5 u6 R, segS 22 5 u5 vs5 l3, segB 5 u4 l0, segB 5 u3 R]) (.cons _ (.cons_cons _ (.cons_cons _ (.cons_cons _ (.cons_cons _ .slnil)))))
  replace H : InvF W _ [segB 5 u4 l0, segB 5 u6 R, segS 22 5 u5 vs5 l3, segB 5 u3 R] := H.front 2 rfl
  go_wp2_with fail
  refine (markByteS_z _ l0 (1) _ _ _ (H.ownB 5 (.head _)) rfl (by omega) (by omega)).mono ?_
  rintro e w12 ⟨rfl, ho, hg⟩
  replace H := H.wroteB ho hg
  clear ho hg
  replace H : InvF W _ [segS 22 5 u5 vs5 l3, segB 5 u4 (marks (1) l0.length), segB 5 u6 R, segB 5 u3 R] := H.front 2 rfl
  go_wp2_with fail
  refine (markByteSS_z W _ _ _ l3 _ (1 + l0.length) _ HV5.out H (by simp) (by omega) (by omega)).mono ?_
  rintro e w13 ⟨rfl, K⟩
  replace H := K
  clear K
  have HV13 : Hid (vs5.length = (marksS (1 + l0.length) l3).length) := Lib.hid (HV5.out.trans (marksS_length _ _).symm)
  have hltk : ¬ ((1 : Int) + (l0.length : Int) + (sumL l3 : Int) < 0) := by omega
  go_wp2_with fail
  refine (eqByteS_any _ _ R _ (H.slB 5 (.tail _ (.tail _ (.head _)))) (H.slB 5 (.tail _ (.tail _ (.tail _ (.head _)))))).mono ?_
  rintro e _ ⟨rfl, d14, rfl⟩
  replace H := H.drewN d14
  replace H := H.sub (qs := [segB 5 u6 R, segB 5 u3 R]) (.cons _ (.cons _ (.cons_cons _ (.cons_cons _ .slnil))))
  go_wp2_with fail
  refine (markByteS_z _ R (1) _ _ _ (H.ownB 5 (.head _)) rfl (by omega) (by omega)).mono ?_
  rintro e w15 ⟨rfl, ho, hg⟩
  replace H := H.wroteB ho hg
  clear ho hg
  go_wp2_with fail
  refine (heldByteS_z _ 1 R.length _ _ (H.slB 5 (.head _)) rfl (by omega) (by omega)).mono ?_
  rintro e _ ⟨rfl, d16, rfl⟩
  replace H := H.drewN d16
  have hltL : ¬ ((1 : Int) + (R.length : Int) < 0) := by omega
  have hneL : ((1 : Int) + (R.length : Int) != 1 + (R.length : Int)) = false := by simp
  go_wp2_with fail
  refine (toByteS_any _ l0 _ (hs0.up H.bel) (by omega)).mono ?_
  rintro e w17 ⟨u17, rfl, ho, hb⟩
  replace H := H.moreB ho hb
  clear ho hb
  go_wp2_with fail
  refine (toByteSS_any _ l3 _ (hs3.up H.bel) hL hSm).mono ?_
  rintro e w18 ⟨u18, vs18, rfl, hvv, K⟩
  have HV18 := Lib.hid hvv
  replace H := H.more (s := segS 22 5 u18 vs18 l3) K
  clear hvv K
  go_wp2_with fail
  refine (implPathRoot_any _ _ l0 n1 n2 l3 _ (H.slB 5 (.tail _ (.head _))) (H.slS 22 5 HV18.out (.head _))  (hgI.up H.bel) (hg.up H.bel)).mono ?_
  rw [← HR.out, ← HB0.out]
  rintro e w19 ⟨u19, rfl, ho, hb⟩
  replace H := H.moreB ho hb
  clear ho hb
  go_wp2_with fail
  refine (eqByteS_any _ _ R _ (H.slB 5 (.head _)) (H.slB 5 (.tail _ (.tail _ (.tail _ (.tail _ (.head _))))))).mono ?_
  rintro e _ ⟨rfl, d20, rfl⟩
  replace H := H.drewN d20
  go_wp2_with fail
  refine (heldByteS_z _ 1 R.length _ _ (H.slB 5 (.tail _ (.tail _ (.tail _ (.head _))))) rfl (by omega) (by omega)).mono ?_
  rintro e _ ⟨rfl, d21, rfl⟩
  replace H := H.drewN d21
  go_wp2_with fail
  go_ret
  exact ⟨rfl, by have hfin := H.bel; simpa using hfin⟩
end Go.Proofs.YtlchadbbldkkfaaDoor
