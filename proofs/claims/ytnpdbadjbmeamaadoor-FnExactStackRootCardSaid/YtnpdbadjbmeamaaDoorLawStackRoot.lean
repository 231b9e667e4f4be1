/- The walk of the exact law of StackRoot: for every argument the law answers true and leaves all memory that was there as it was. -/
import Derived.Test.YtnpdbadjbmeamaaDoorStackRootS
import Derived.Test.YtnpdbadjbmeamaaDoorStackRoot
import Derived.Test.YtnpdbadjbmeamaaDoorStackSeg
import Derived.Deep.RegionHeld3
namespace Go.Proofs.YtnpdbadjbmeamaaDoor
open Go.ChangeShapes Go.WideShapes Go.ChangeAt Go.RowKit

set_option maxRecDepth 100000 in
set_option maxHeartbeats 8000000 in
theorem StackRoot_walk (v0 : Value) (I0 : List Int) (M0 : List (List UInt8)) (W : World) (h0 : SlK W W.heap.size v0 I0 M0) (hgI : Glob W 0 initW) (hg : Glob W 1 kk) :
    Calls Tryd.prog 5 #[v0] W (Yes W) := by
  have hs0 := h0
  obtain ⟨a0, s0, rfl, hI0, hS0⟩ := h0
  obtain ⟨A0, c0, rfl, p0, q0, r0, z0⟩ := hI0
  obtain ⟨A0', c0', rfl, p0', q0', r0', z0'⟩ := hS0
  unfold maxLen at q0 q0'
  clear r0 z0 r0' z0'
  by_cases hbig : 1048576 < (I0.length : Int) + (M0.length : Int) + (sumL M0 : Int)
  · have HZ : Hid (szKZ I0 M0 1048576 = -1) := Lib.hid (by exact szKZ_big hbig)
    clear hbig
    have H : InvF W W [] := InvF.start W
    replace H := H.box 38 (a := .slice A0 I0.length c0) (s := .slice A0' M0.length c0')
    go_enter Tryd.func5, Tryd.ntmps5
    have ba1 := H.c0 (.head _)
    have bb1 := H.c1 (.head _)
    go_wp2_with fail
    refine (szStack_any _ I0 M0 1048576 _ (hs0.up H.bel) (by omega) (by omega)).mono ?_
    rw [HZ.out]
    rintro e w0 ⟨rfl, hb⟩
    replace H := H.up hb
    clear hb
    clear ba1 bb1
    have ba2 := H.c0 (.head _)
    have bb2 := H.c1 (.head _)
    go_wp2
    go_ret
    exact ⟨rfl, H.bel⟩
  obtain ⟨zz, hz⟩ : ∃ z, z = 1048576 - ((I0.length : Int) + (M0.length : Int) + (sumL M0 : Int)) := ⟨_, rfl⟩
  have HZ : Hid (szKZ I0 M0 1048576 = zz) := Lib.hid (by rw [hz]; exact szKZ_ok hbig)
  have hzlo : 0 ≤ zz := by omega
  have hzhi : zz ≤ 1048576 := by omega
  have hzn : ¬ (zz < 0) := by omega
  have hH : I0.length ≤ 1048576 := by omega
  have hL : M0.length ≤ 1048576 := by omega
  have hSm : sumL M0 ≤ 1048576 := by omega
  clear hbig hz
  have hp : (rootS I0 M0).length ≤ 1073741824 := by have := rootS_len I0 M0; omega
  obtain ⟨R, hR⟩ : ∃ R, R = rootS I0 M0 := ⟨_, rfl⟩
  rw [← hR] at hp
  have HR := Lib.hid hR
  clear hR
  have H : InvF W W [] := InvF.start W
  replace H := H.box 38 (a := .slice A0 I0.length c0) (s := .slice A0' M0.length c0')
  go_enter Tryd.func5, Tryd.ntmps5
  have ba3 := H.c0 (.head _)
  have bb3 := H.c1 (.head _)
  go_wp2_with fail
  refine (szStack_any _ I0 M0 1048576 _ (hs0.up H.bel) (by omega) (by omega)).mono ?_
  rw [HZ.out]
  rintro e w0 ⟨rfl, hb⟩
  replace H := H.up hb
  clear hb
  clear ba3 bb3
  have ba4 := H.c0 (.head _)
  have bb4 := H.c1 (.head _)
  go_wp2_with fail
  refine (toStack_any _ I0 M0 _ (hs0.up H.bel) hH hL hSm).mono ?_
  rintro e w1 hf
  obtain ⟨A1x, c1x, A1y, c1y, vs1, rfl, HV1, K⟩ := FreshK.open hf
  replace H := H.moreF K
  clear K
  replace H : InvF W w1 [segI 3 (.slice A1x I0.length c1x) I0, segS 22 5 (.slice A1y M0.length c1y) vs1 M0, segV 38 W.heap.size (.slice A0 I0.length c0) (.slice A0' M0.length c0')] := H
  clear ba4 bb4
  have ba5 := H.c0 (.tail _ (.tail _ (.head _)))
  have bb5 := H.c1 (.tail _ (.tail _ (.head _)))
  go_wp2_with fail
  refine (specStackRoot_any _ I0 M0 _ (H.slK HV1.out (.head _) (.tail _ (.head _)))  ).mono ?_
  rw [← HR.out]
  rintro e w2 ⟨u2, rfl, ho, hb⟩
  replace H := H.moreB ho hb
  clear ho hb
  replace H := H.sub (qs := [segB 5 u2 R, segV 38 W.heap.size (.slice A0 I0.length c0) (.slice A0' M0.length c0')]) (.cons_cons _ (.cons _ (.cons _ (.cons_cons _ .slnil))))
  clear ba5 bb5
  have ba6 := H.c0 (.tail _ (.head _))
  have bb6 := H.c1 (.tail _ (.head _))
  go_wp2_with fail
  refine (toStack_any _ I0 M0 _ (hs0.up H.bel) hH hL hSm).mono ?_
  rintro e w3 hf
  obtain ⟨A3x, c3x, A3y, c3y, vs3, rfl, HV3, K⟩ := FreshK.open hf
  replace H := H.moreF K
  clear K
  replace H : InvF W w3 [segI 3 (.slice A3x I0.length c3x) I0, segS 22 5 (.slice A3y M0.length c3y) vs3 M0, segB 5 u2 R, segV 38 W.heap.size (.slice A0 I0.length c0) (.slice A0' M0.length c0')] := H
  replace H := H.box 27 (a := (.slice A3x I0.length c3x)) (s := (.slice A3y M0.length c3y))
  clear ba6 bb6
  have ba7 := H.c0 (.head _)
  have bb7 := H.c1 (.head _)
  have ba8 := H.c0 (.tail _ (.tail _ (.tail _ (.tail _ (.head _)))))
  have bb8 := H.c1 (.tail _ (.tail _ (.tail _ (.tail _ (.head _)))))
  go_wp2_with fail
  refine (implStackRoot_any _ I0 M0 _ (H.slK HV3.out (.tail _ (.head _)) (.tail _ (.tail _ (.head _))))  (hgI.up H.bel) (hg.up H.bel)).mono ?_
  rw [← HR.out]
  rintro e w5 ⟨u5, rfl, ho, hb⟩
  replace H := H.moreB ho hb
  clear ho hb
  clear ba7 bb7 ba8 bb8
  have ba9 := H.c0 (.tail _ (.head _))
  have bb9 := H.c1 (.tail _ (.head _))
  have ba10 := H.c0 (.tail _ (.tail _ (.tail _ (.tail _ (.tail _ (.head _))))))
  have bb10 := H.c1 (.tail _ (.tail _ (.tail _ (.tail _ (.tail _ (.head _))))))
  go_wp2_with fail
  refine (eqByteS_any _ _ R _ (H.slB 5 (.head _)) (H.slB 5 (.tail _ (.tail _ (.tail _ (.tail _ (.head _))))))).mono ?_
  rintro e _ ⟨rfl, d6, rfl⟩
  replace H := H.drewN d6
  clear ba9 bb9 ba10 bb10
  have ba11 := H.c0 (.tail _ (.head _))
  have bb11 := H.c1 (.tail _ (.head _))
  have ba12 := H.c0 (.tail _ (.tail _ (.tail _ (.tail _ (.tail _ (.head _))))))
  have bb12 := H.c1 (.tail _ (.tail _ (.tail _ (.tail _ (.tail _ (.head _))))))
  have HC := Lib.hid (And.intro (H.var (.tail _ (.head _))) (H.var (.tail _ (.tail _ (.tail _ (.tail _ (.tail _ (.head _))))))))
  have hg1 := H.vlt (.tail _ (.head _))
  have hg2 := H.vlt (.tail _ (.tail _ (.tail _ (.tail _ (.tail _ (.head _))))))
  have HD := Lib.hid (H.drewN 1)
  go_wp2_with fail
  go_region_held3 (fun w' => w'.cell? ⟨w3.heap.size, 0, none⟩ = some (.slice A3x I0.length c3x) ∧ w'.cell? ⟨w3.heap.size, 1, none⟩ = some (.slice A3y M0.length c3y) ∧ w'.cell? ⟨W.heap.size, 0, none⟩ = some (.slice A0 I0.length c0) ∧ w'.cell? ⟨W.heap.size, 1, none⟩ = some (.slice A0' M0.length c0'))
    (first
      | exact box4 HC.out hg1 hg2 (below_drewN (Below.refl _ _) 1)
      | exact box4 HC.out hg1 hg2 HBa.out
      | exact box4 HC.out hg1 hg2 HBb.out)
    (first
      | (go_at_call 18; refine (toStack_any _ I0 M0 _ (hs0.up HD.out.bel) hH hL hSm).mono ?_; rintro e w7 hf; obtain ⟨A7x, c7x, A7y, c7y, vs7, rfl, HV7, K⟩ := FreshK.open hf;
         have HBa := Lib.hid ((below_drewN (Below.refl _ _) 1).trans K.bel);
         have HE : Hid (InvF W w7 [segI 3 (.slice A7x I0.length c7x) I0, segS 22 5 (.slice A7y M0.length c7y) vs7 M0, segB 5 u5 R, segV 27 w3.heap.size (.slice A3x I0.length c3x) (.slice A3y M0.length c3y), segI 3 (.slice A3x I0.length c3x) I0, segS 22 5 (.slice A3y M0.length c3y) vs3 M0, segB 5 u2 R, segV 38 W.heap.size (.slice A0 I0.length c0) (.slice A0' M0.length c0')]) := Lib.hid (HD.out.moreF K); clear K)
      | (go_at_call 20; refine (eqStack_any _ _ I0 M0 _ (HE.out.slK HV3.out (.tail _ (.tail _ (.tail _ (.tail _ (.head _))))) (.tail _ (.tail _ (.tail _ (.tail _ (.tail _ (.head _))))))) (HE.out.slK HV7.out (.head _) (.tail _ (.head _)))).mono ?_; rintro e w8 ⟨rfl, hb⟩;
         have HBb := Lib.hid (HBa.out.trans (hb.mono HBa.out.size)); have HF := Lib.hid (HE.out.up hb); clear hb))
  clear H ba11 bb11 ba12 bb12
  have H := HF.out
  clear HBa HBb HD HE HF HC hg1 hg2
  replace H := H.sub (qs := [segB 5 u5 R, segV 27 w3.heap.size (.slice A3x I0.length c3x) (.slice A3y M0.length c3y), segI 3 (.slice A3x I0.length c3x) I0, segS 22 5 (.slice A3y M0.length c3y) vs3 M0, segB 5 u2 R, segV 38 W.heap.size (.slice A0 I0.length c0) (.slice A0' M0.length c0')]) (.cons _ (.cons _ (.cons_cons _ (.cons_cons _ (.cons_cons _ (.cons_cons _ (.cons_cons _ (.cons_cons _ .slnil))))))))
  replace H : InvF W _ [segS 22 5 (.slice A3y M0.length c3y) vs3 M0, segB 5 u5 R, segV 27 w3.heap.size (.slice A3x I0.length c3x) (.slice A3y M0.length c3y), segI 3 (.slice A3x I0.length c3x) I0, segB 5 u2 R, segV 38 W.heap.size (.slice A0 I0.length c0) (.slice A0' M0.length c0')] := H.front 3 rfl
  replace H : InvF W _ [segI 3 (.slice A3x I0.length c3x) I0, segS 22 5 (.slice A3y M0.length c3y) vs3 M0, segB 5 u5 R, segV 27 w3.heap.size (.slice A3x I0.length c3x) (.slice A3y M0.length c3y), segB 5 u2 R, segV 38 W.heap.size (.slice A0 I0.length c0) (.slice A0' M0.length c0')] := H.front 3 rfl
  have ba13 := H.c0 (.tail _ (.tail _ (.tail _ (.head _))))
  have bb13 := H.c1 (.tail _ (.tail _ (.tail _ (.head _))))
  have ba14 := H.c0 (.tail _ (.tail _ (.tail _ (.tail _ (.tail _ (.head _))))))
  have bb14 := H.c1 (.tail _ (.tail _ (.tail _ (.tail _ (.tail _ (.head _))))))
  go_wp2_with fail
  refine (markStack_any W _ _ _ _ I0 M0 _ (1) _ HV3.out H rfl (by omega) (by omega) (by omega) (by omega)).mono ?_
  rintro e w9 ⟨rfl, K⟩
  replace H := K
  clear K
  have HV9 : Hid (vs3.length = (marksS (1 + I0.length) M0).length) := Lib.hid (HV3.out.trans (marksS_length _ _).symm)
  have hltk : ¬ ((1 : Int) + (I0.length : Int) + (sumL M0 : Int) < 0) := by omega
  clear ba13 bb13 ba14 bb14
  have ba15 := H.c0 (.tail _ (.tail _ (.tail _ (.head _))))
  have bb15 := H.c1 (.tail _ (.tail _ (.tail _ (.head _))))
  have ba16 := H.c0 (.tail _ (.tail _ (.tail _ (.tail _ (.tail _ (.head _))))))
  have bb16 := H.c1 (.tail _ (.tail _ (.tail _ (.tail _ (.tail _ (.head _))))))
  go_wp2_with fail
  refine (eqByteS_any _ _ R _ (H.slB 5 (.tail _ (.tail _ (.head _)))) (H.slB 5 (.tail _ (.tail _ (.tail _ (.tail _ (.head _))))))).mono ?_
  rintro e _ ⟨rfl, d10, rfl⟩
  replace H := H.drewN d10
  replace H := H.sub (qs := [segB 5 u5 R, segB 5 u2 R, segV 38 W.heap.size (.slice A0 I0.length c0) (.slice A0' M0.length c0')]) (.cons _ (.cons _ (.cons_cons _ (.cons _ (.cons_cons _ (.cons_cons _ .slnil))))))
  clear ba15 bb15 ba16 bb16
  have ba17 := H.c0 (.tail _ (.tail _ (.head _)))
  have bb17 := H.c1 (.tail _ (.tail _ (.head _)))
  go_wp2_with fail
  refine (markByteS_z _ R (1) _ _ _ (H.ownB 5 (.head _)) rfl (by omega) (by omega)).mono ?_
  rintro e w11 ⟨rfl, ho, hg⟩
  replace H := H.wroteB ho hg
  clear ho hg
  clear ba17 bb17
  have ba18 := H.c0 (.tail _ (.tail _ (.head _)))
  have bb18 := H.c1 (.tail _ (.tail _ (.head _)))
  go_wp2_with fail
  refine (heldByteS_z _ 1 R.length _ _ (H.slB 5 (.head _)) rfl (by omega) (by omega)).mono ?_
  rintro e _ ⟨rfl, d12, rfl⟩
  replace H := H.drewN d12
  have hltL : ¬ ((1 : Int) + (R.length : Int) < 0) := by omega
  have hneL : ((1 : Int) + (R.length : Int) != 1 + (R.length : Int)) = false := by simp
  clear ba18 bb18
  have ba19 := H.c0 (.tail _ (.tail _ (.head _)))
  have bb19 := H.c1 (.tail _ (.tail _ (.head _)))
  go_wp2_with fail
  refine (toStack_any _ I0 M0 _ (hs0.up H.bel) hH hL hSm).mono ?_
  rintro e w13 hf
  obtain ⟨A13x, c13x, A13y, c13y, vs13, rfl, HV13, K⟩ := FreshK.open hf
  replace H := H.moreF K
  clear K
  replace H : InvF W w13 [segI 3 (.slice A13x I0.length c13x) I0, segS 22 5 (.slice A13y M0.length c13y) vs13 M0, segB 5 u5 (marks (1) R.length), segB 5 u2 R, segV 38 W.heap.size (.slice A0 I0.length c0) (.slice A0' M0.length c0')] := H
  clear ba19 bb19
  have ba20 := H.c0 (.tail _ (.tail _ (.tail _ (.tail _ (.head _)))))
  have bb20 := H.c1 (.tail _ (.tail _ (.tail _ (.tail _ (.head _)))))
  go_wp2_with fail
  refine (implStackRoot_any _ I0 M0 _ (H.slK HV13.out (.head _) (.tail _ (.head _)))  (hgI.up H.bel) (hg.up H.bel)).mono ?_
  rw [← HR.out]
  rintro e w14 ⟨u14, rfl, ho, hb⟩
  replace H := H.moreB ho hb
  clear ho hb
  clear ba20 bb20
  have ba21 := H.c0 (.tail _ (.tail _ (.tail _ (.tail _ (.tail _ (.head _))))))
  have bb21 := H.c1 (.tail _ (.tail _ (.tail _ (.tail _ (.tail _ (.head _))))))
  go_wp2_with fail
  refine (eqByteS_any _ _ R _ (H.slB 5 (.head _)) (H.slB 5 (.tail _ (.tail _ (.tail _ (.tail _ (.head _))))))).mono ?_
  rintro e _ ⟨rfl, d15, rfl⟩
  replace H := H.drewN d15
  clear ba21 bb21
  have ba22 := H.c0 (.tail _ (.tail _ (.tail _ (.tail _ (.tail _ (.head _))))))
  have bb22 := H.c1 (.tail _ (.tail _ (.tail _ (.tail _ (.tail _ (.head _))))))
  go_wp2_with fail
  refine (heldByteS_z _ 1 R.length _ _ (H.slB 5 (.tail _ (.tail _ (.tail _ (.head _))))) rfl (by omega) (by omega)).mono ?_
  rintro e _ ⟨rfl, d16, rfl⟩
  replace H := H.drewN d16
  clear ba22 bb22
  have ba23 := H.c0 (.tail _ (.tail _ (.tail _ (.tail _ (.tail _ (.head _))))))
  have bb23 := H.c1 (.tail _ (.tail _ (.tail _ (.tail _ (.tail _ (.head _))))))
  go_wp2_with fail
  go_ret
  exact ⟨rfl, by have hfin := H.bel; simpa using hfin⟩
end Go.Proofs.YtnpdbadjbmeamaaDoor
