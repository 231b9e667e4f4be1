/- The walk of the exact law of StackPush: for every argument the law answers true and leaves all memory that was there as it was. -/
import Derived.Test.YtdoaikanaodefaaDoorStackPushS
import Derived.Test.YtdoaikanaodefaaDoorStackOpen
import Derived.Test.YtdoaikanaodefaaDoorStackSeg
import Derived.Deep.RegionHeld3
namespace Go.Proofs.YtdoaikanaodefaaDoor
open Go.ChangeShapes Go.WideShapes Go.ChangeAt Go.RowKit

set_option maxRecDepth 100000 in
set_option maxHeartbeats 8000000 in
theorem StackPush_walk (v0 : Value) (I0 : List Int) (M0 : List (List UInt8)) (v1 : Value) (l1 : List UInt8) (W : World) (h0 : SlK W W.heap.size v0 I0 M0) (h1 : Sl W W.heap.size v1 l1) (hgI : Glob W 0 initW) (hg : Glob W 1 kk) :
    Calls Tryd.prog 4 #[v0, v1] W (Yes W) := by
  have hs0 := h0
  obtain ⟨a0, s0, rfl, hI0, hS0⟩ := h0
  obtain ⟨A0, c0, rfl, p0, q0, r0, z0⟩ := hI0
  obtain ⟨A0', c0', rfl, p0', q0', r0', z0'⟩ := hS0
  unfold maxLen at q0 q0'
  clear r0 z0 r0' z0'
  have hs1 := h1
  obtain ⟨A1, c1, rfl, p1, q1, r1, z1⟩ := h1
  unfold maxLen at q1
  clear r1 z1
  by_cases hbig1 : 1048576 < l1.length
  · have hb : (1048576 : Int) < (l1.length : Int) := by omega
    go_enter Tryd.func4, Tryd.ntmps4
    go_wp2
    go_ret
    exact ⟨rfl, by first | exact Below.refl _ _ | exact (Below.refl _ _).alloc (Nat.le_refl _) _⟩
  have hb1 : ¬ ((1048576 : Int) < (l1.length : Int)) := by omega
  by_cases hbig : 1048576 < (I0.length : Int) + (M0.length : Int) + (sumL M0 : Int)
  · have HZ : Hid (szKZ I0 M0 1048576 = -1) := Lib.hid (by exact szKZ_big hbig)
    clear hbig
    have H : InvF W W [] := InvF.start W
    replace H := H.box 38 (a := .slice A0 I0.length c0) (s := .slice A0' M0.length c0')
    go_enter Tryd.func4, Tryd.ntmps4
    have ba1 := H.c0 (.head _)
    have bb1 := H.c1 (.head _)
    go_wp2_with fail
    refine (szStack_any _ I0 M0 1048576 _ (hs0.up H.bel) (by omega) (by omega)).mono ?_
    rw [HZ.out]
    rintro e w0 ⟨rfl, hb⟩
    replace H := H.up hb
    clear hb
    clear ba1 bb1
    have ba2 := H.c0 (.head _)
    have bb2 := H.c1 (.head _)
    go_wp2
    go_ret
    exact ⟨rfl, H.bel⟩
  obtain ⟨zz, hz⟩ : ∃ z, z = 1048576 - ((I0.length : Int) + (M0.length : Int) + (sumL M0 : Int)) := ⟨_, rfl⟩
  have HZ : Hid (szKZ I0 M0 1048576 = zz) := Lib.hid (by rw [hz]; exact szKZ_ok hbig)
  have hzlo : 0 ≤ zz := by omega
  have hzhi : zz ≤ 1048576 := by omega
  have hzn : ¬ (zz < 0) := by omega
  have hH : I0.length ≤ 1048576 := by omega
  have hL : M0.length ≤ 1048576 := by omega
  have hSm : sumL M0 ≤ 1048576 := by omega
  clear hbig hz
  have hp : (psH I0 M0 l1).length ≤ 4194304 ∧ sumL (psS I0 M0 l1) ≤ 1073741824 := by have := ps_small I0 M0 l1; omega
  obtain ⟨R, hR⟩ : ∃ R, R = psH I0 M0 l1 := ⟨_, rfl⟩
  obtain ⟨RL, hRL⟩ : ∃ R, R = psS I0 M0 l1 := ⟨_, rfl⟩
  rw [← hR, ← hRL] at hp
  obtain ⟨hp, hpS⟩ := hp
  have HR := Lib.hid hR
  have HRL := Lib.hid hRL
  clear hR hRL
  obtain ⟨b0, hB⟩ : ∃ b, b = pushB I0 M0 l1 := ⟨_, rfl⟩
  have HB0 := Lib.hid hB
  clear hB
  have hbb0 : (b0 != b0) = false := by simp
  have H : InvF W W [] := InvF.start W
  replace H := H.box 38 (a := .slice A0 I0.length c0) (s := .slice A0' M0.length c0')
  go_enter Tryd.func4, Tryd.ntmps4
  have ba3 := H.c0 (.head _)
  have bb3 := H.c1 (.head _)
  go_wp2_with fail
  refine (szStack_any _ I0 M0 1048576 _ (hs0.up H.bel) (by omega) (by omega)).mono ?_
  rw [HZ.out]
  rintro e w0 ⟨rfl, hb⟩
  replace H := H.up hb
  clear hb
  clear ba3 bb3
  have ba4 := H.c0 (.head _)
  have bb4 := H.c1 (.head _)
  go_wp2_with fail
  refine (toStack_any _ I0 M0 _ (hs0.up H.bel) hH hL hSm).mono ?_
  rintro e w1 hf
  obtain ⟨A1x, c1x, A1y, c1y, vs1, rfl, HV1, K⟩ := FreshK.open hf
  replace H := H.moreF K
  clear K
  replace H : InvF W w1 [segI 3 (.slice A1x I0.length c1x) I0, segS 22 5 (.slice A1y M0.length c1y) vs1 M0, segV 38 W.heap.size (.slice A0 I0.length c0) (.slice A0' M0.length c0')] := H
  clear ba4 bb4
  have ba5 := H.c0 (.tail _ (.tail _ (.head _)))
  have bb5 := H.c1 (.tail _ (.tail _ (.head _)))
  go_wp2_with fail
  refine (toByteS_any _ l1 _ (hs1.up H.bel) (by omega)).mono ?_
  rintro e w2 ⟨u2, rfl, ho, hb⟩
  replace H := H.moreB ho hb
  clear ho hb
  clear ba5 bb5
  have ba6 := H.c0 (.tail _ (.tail _ (.tail _ (.head _))))
  have bb6 := H.c1 (.tail _ (.tail _ (.tail _ (.head _))))
  go_wp2_with fail
  refine (specStackPush_any _ _ I0 M0 l1 _ (H.slK HV1.out (.tail _ (.head _)) (.tail _ (.tail _ (.head _)))) (H.slB 5 (.head _))  ).mono ?_
  rw [← HR.out, ← HRL.out, ← HB0.out]
  rintro e w3 hf
  obtain ⟨A3x, c3x, A3y, c3y, vs3, rfl, HV3, K⟩ := FreshKB.open hf
  replace H := H.moreF K
  clear K
  replace H : InvF W w3 [segI 3 (.slice A3x R.length c3x) R, segS 22 5 (.slice A3y RL.length c3y) vs3 RL, segB 5 u2 l1, segI 3 (.slice A1x I0.length c1x) I0, segS 22 5 (.slice A1y M0.length c1y) vs1 M0, segV 38 W.heap.size (.slice A0 I0.length c0) (.slice A0' M0.length c0')] := H
  replace H := H.sub (qs := [segI 3 (.slice A3x R.length c3x) R, segS 22 5 (.slice A3y RL.length c3y) vs3 RL, segV 38 W.heap.size (.slice A0 I0.length c0) (.slice A0' M0.length c0')]) (.cons_cons _ (.cons_cons _ (.cons _ (.cons _ (.cons _ (.cons_cons _ .slnil))))))
  replace H := H.box 27 (a := (.slice A3x R.length c3x)) (s := (.slice A3y RL.length c3y))
  clear ba6 bb6
  have ba7 := H.c0 (.head _)
  have bb7 := H.c1 (.head _)
  have ba8 := H.c0 (.tail _ (.tail _ (.tail _ (.head _))))
  have bb8 := H.c1 (.tail _ (.tail _ (.tail _ (.head _))))
  go_wp2_with fail
  refine (toStack_any _ I0 M0 _ (hs0.up H.bel) hH hL hSm).mono ?_
  rintro e w5 hf
  obtain ⟨A5x, c5x, A5y, c5y, vs5, rfl, HV5, K⟩ := FreshK.open hf
  replace H := H.moreF K
  clear K
  replace H : InvF W w5 [segI 3 (.slice A5x I0.length c5x) I0, segS 22 5 (.slice A5y M0.length c5y) vs5 M0, segV 27 w3.heap.size (.slice A3x R.length c3x) (.slice A3y RL.length c3y), segI 3 (.slice A3x R.length c3x) R, segS 22 5 (.slice A3y RL.length c3y) vs3 RL, segV 38 W.heap.size (.slice A0 I0.length c0) (.slice A0' M0.length c0')] := H
  replace H := H.box 27 (a := (.slice A5x I0.length c5x)) (s := (.slice A5y M0.length c5y))
  clear ba7 bb7 ba8 bb8
  have ba9 := H.c0 (.head _)
  have bb9 := H.c1 (.head _)
  have ba10 := H.c0 (.tail _ (.tail _ (.tail _ (.head _))))
  have bb10 := H.c1 (.tail _ (.tail _ (.tail _ (.head _))))
  have ba11 := H.c0 (.tail _ (.tail _ (.tail _ (.tail _ (.tail _ (.tail _ (.head _)))))))
  have bb11 := H.c1 (.tail _ (.tail _ (.tail _ (.tail _ (.tail _ (.tail _ (.head _)))))))
  go_wp2_with fail
  refine (toByteS_any _ l1 _ (hs1.up H.bel) (by omega)).mono ?_
  rintro e w7 ⟨u7, rfl, ho, hb⟩
  replace H := H.moreB ho hb
  clear ho hb
  clear ba9 bb9 ba10 bb10 ba11 bb11
  have ba12 := H.c0 (.tail _ (.head _))
  have bb12 := H.c1 (.tail _ (.head _))
  have ba13 := H.c0 (.tail _ (.tail _ (.tail _ (.tail _ (.head _)))))
  have bb13 := H.c1 (.tail _ (.tail _ (.tail _ (.tail _ (.head _)))))
  have ba14 := H.c0 (.tail _ (.tail _ (.tail _ (.tail _ (.tail _ (.tail _ (.tail _ (.head _))))))))
  have bb14 := H.c1 (.tail _ (.tail _ (.tail _ (.tail _ (.tail _ (.tail _ (.tail _ (.head _))))))))
  go_wp2_with fail
  refine (implStackPush_any _ _ I0 M0 l1 _ (H.slK HV5.out (.tail _ (.tail _ (.head _))) (.tail _ (.tail _ (.tail _ (.head _))))) (H.slB 5 (.head _))  (hgI.up H.bel) (hg.up H.bel)).mono ?_
  rw [← HR.out, ← HRL.out, ← HB0.out]
  rintro e w8 hf
  obtain ⟨A8x, c8x, A8y, c8y, vs8, rfl, HV8, K⟩ := FreshKB.open hf
  replace H := H.moreF K
  clear K
  replace H : InvF W w8 [segI 3 (.slice A8x R.length c8x) R, segS 22 5 (.slice A8y RL.length c8y) vs8 RL, segB 5 u7 l1, segV 27 w5.heap.size (.slice A5x I0.length c5x) (.slice A5y M0.length c5y), segI 3 (.slice A5x I0.length c5x) I0, segS 22 5 (.slice A5y M0.length c5y) vs5 M0, segV 27 w3.heap.size (.slice A3x R.length c3x) (.slice A3y RL.length c3y), segI 3 (.slice A3x R.length c3x) R, segS 22 5 (.slice A3y RL.length c3y) vs3 RL, segV 38 W.heap.size (.slice A0 I0.length c0) (.slice A0' M0.length c0')] := H
  replace H := H.box 27 (a := (.slice A8x R.length c8x)) (s := (.slice A8y RL.length c8y))
  clear ba12 bb12 ba13 bb13 ba14 bb14
  have ba15 := H.c0 (.head _)
  have bb15 := H.c1 (.head _)
  have ba16 := H.c0 (.tail _ (.tail _ (.tail _ (.tail _ (.head _)))))
  have bb16 := H.c1 (.tail _ (.tail _ (.tail _ (.tail _ (.head _)))))
  have ba17 := H.c0 (.tail _ (.tail _ (.tail _ (.tail _ (.tail _ (.tail _ (.tail _ (.head _))))))))
  have bb17 := H.c1 (.tail _ (.tail _ (.tail _ (.tail _ (.tail _ (.tail _ (.tail _ (.head _))))))))
  have ba18 := H.c0 (.tail _ (.tail _ (.tail _ (.tail _ (.tail _ (.tail _ (.tail _ (.tail _ (.tail _ (.tail _ (.head _)))))))))))
  have bb18 := H.c1 (.tail _ (.tail _ (.tail _ (.tail _ (.tail _ (.tail _ (.tail _ (.tail _ (.tail _ (.tail _ (.head _)))))))))))
  go_wp2_with fail
  refine (eqStack_any _ _ R RL _ (H.slK HV8.out (.tail _ (.head _)) (.tail _ (.tail _ (.head _)))) (H.slK HV3.out (.tail _ (.tail _ (.tail _ (.tail _ (.tail _ (.tail _ (.tail _ (.tail _ (.head _))))))))) (.tail _ (.tail _ (.tail _ (.tail _ (.tail _ (.tail _ (.tail _ (.tail _ (.tail _ (.head _)))))))))))).mono ?_
  rintro e w10 ⟨rfl, hb⟩
  replace H := H.up hb
  clear hb
  clear ba15 bb15 ba16 bb16 ba17 bb17 ba18 bb18
  have ba19 := H.c0 (.head _)
  have bb19 := H.c1 (.head _)
  have ba20 := H.c0 (.tail _ (.tail _ (.tail _ (.tail _ (.head _)))))
  have bb20 := H.c1 (.tail _ (.tail _ (.tail _ (.tail _ (.head _)))))
  have ba21 := H.c0 (.tail _ (.tail _ (.tail _ (.tail _ (.tail _ (.tail _ (.tail _ (.head _))))))))
  have bb21 := H.c1 (.tail _ (.tail _ (.tail _ (.tail _ (.tail _ (.tail _ (.tail _ (.head _))))))))
  have ba22 := H.c0 (.tail _ (.tail _ (.tail _ (.tail _ (.tail _ (.tail _ (.tail _ (.tail _ (.tail _ (.tail _ (.head _)))))))))))
  have bb22 := H.c1 (.tail _ (.tail _ (.tail _ (.tail _ (.tail _ (.tail _ (.tail _ (.tail _ (.tail _ (.tail _ (.head _)))))))))))
  have HC := Lib.hid (And.intro (H.var (.tail _ (.tail _ (.tail _ (.tail _ (.head _)))))) (H.var (.tail _ (.tail _ (.tail _ (.tail _ (.tail _ (.tail _ (.tail _ (.tail _ (.tail _ (.tail _ (.head _)))))))))))))
  have hg1 := H.vlt (.tail _ (.tail _ (.tail _ (.tail _ (.head _)))))
  have hg2 := H.vlt (.tail _ (.tail _ (.tail _ (.tail _ (.tail _ (.tail _ (.tail _ (.tail _ (.tail _ (.tail _ (.head _)))))))))))
  have HD := Lib.hid (H.drewN 1)
  go_wp2_with fail
  go_region_held3 (fun w' => w'.cell? ⟨w5.heap.size, 0, none⟩ = some (.slice A5x I0.length c5x) ∧ w'.cell? ⟨w5.heap.size, 1, none⟩ = some (.slice A5y M0.length c5y) ∧ w'.cell? ⟨W.heap.size, 0, none⟩ = some (.slice A0 I0.length c0) ∧ w'.cell? ⟨W.heap.size, 1, none⟩ = some (.slice A0' M0.length c0'))
    (first
      | exact box4 HC.out hg1 hg2 (below_drewN (Below.refl _ _) 1)
      | exact box4 HC.out hg1 hg2 HBa.out
      | exact box4 HC.out hg1 hg2 HBb.out)
    (first
      | (go_at_call 18; refine (toStack_any _ I0 M0 _ (hs0.up HD.out.bel) hH hL hSm).mono ?_; rintro e w11 hf; obtain ⟨A11x, c11x, A11y, c11y, vs11, rfl, HV11, K⟩ := FreshK.open hf;
         have HBa := Lib.hid ((below_drewN (Below.refl _ _) 1).trans K.bel);
         have HE : Hid (InvF W w11 [segI 3 (.slice A11x I0.length c11x) I0, segS 22 5 (.slice A11y M0.length c11y) vs11 M0, segV 27 w8.heap.size (.slice A8x R.length c8x) (.slice A8y RL.length c8y), segI 3 (.slice A8x R.length c8x) R, segS 22 5 (.slice A8y RL.length c8y) vs8 RL, segB 5 u7 l1, segV 27 w5.heap.size (.slice A5x I0.length c5x) (.slice A5y M0.length c5y), segI 3 (.slice A5x I0.length c5x) I0, segS 22 5 (.slice A5y M0.length c5y) vs5 M0, segV 27 w3.heap.size (.slice A3x R.length c3x) (.slice A3y RL.length c3y), segI 3 (.slice A3x R.length c3x) R, segS 22 5 (.slice A3y RL.length c3y) vs3 RL, segV 38 W.heap.size (.slice A0 I0.length c0) (.slice A0' M0.length c0')]) := Lib.hid (HD.out.moreF K); clear K)
      | (go_at_call 20; refine (eqStack_any _ _ I0 M0 _ (HE.out.slK HV5.out (.tail _ (.tail _ (.tail _ (.tail _ (.tail _ (.tail _ (.tail _ (.head _)))))))) (.tail _ (.tail _ (.tail _ (.tail _ (.tail _ (.tail _ (.tail _ (.tail _ (.head _)))))))))) (HE.out.slK HV11.out (.head _) (.tail _ (.head _)))).mono ?_; rintro e w12 ⟨rfl, hb⟩;
         have HBb := Lib.hid (HBa.out.trans (hb.mono HBa.out.size)); have HF := Lib.hid (HE.out.up hb); clear hb))
  clear H ba19 bb19 ba20 bb20 ba21 bb21 ba22 bb22
  have H := HF.out
  clear HBa HBb HD HE HF HC hg1 hg2
  replace H := H.sub (qs := [segV 27 w8.heap.size (.slice A8x R.length c8x) (.slice A8y RL.length c8y), segI 3 (.slice A8x R.length c8x) R, segS 22 5 (.slice A8y RL.length c8y) vs8 RL, segB 5 u7 l1, segV 27 w5.heap.size (.slice A5x I0.length c5x) (.slice A5y M0.length c5y), segI 3 (.slice A5x I0.length c5x) I0, segS 22 5 (.slice A5y M0.length c5y) vs5 M0, segV 27 w3.heap.size (.slice A3x R.length c3x) (.slice A3y RL.length c3y), segI 3 (.slice A3x R.length c3x) R, segS 22 5 (.slice A3y RL.length c3y) vs3 RL, segV 38 W.heap.size (.slice A0 I0.length c0) (.slice A0' M0.length c0')]) (.cons _ (.cons _ (.cons_cons _ (.cons_cons _ (.cons_cons _ (.cons_cons _ (.cons_cons _ (.cons_cons _ (.cons_cons _ (.cons_cons _ (.cons_cons _ (.cons_cons _ (.cons_cons _ .slnil)))))))))))))
  have ba23 := H.c0 (.head _)
  have bb23 := H.c1 (.head _)
  have ba24 := H.c0 (.tail _ (.tail _ (.tail _ (.tail _ (.head _)))))
  have bb24 := H.c1 (.tail _ (.tail _ (.tail _ (.tail _ (.head _)))))
  have ba25 := H.c0 (.tail _ (.tail _ (.tail _ (.tail _ (.tail _ (.tail _ (.tail _ (.head _))))))))
  have bb25 := H.c1 (.tail _ (.tail _ (.tail _ (.tail _ (.tail _ (.tail _ (.tail _ (.head _))))))))
  have ba26 := H.c0 (.tail _ (.tail _ (.tail _ (.tail _ (.tail _ (.tail _ (.tail _ (.tail _ (.tail _ (.tail _ (.head _)))))))))))
  have bb26 := H.c1 (.tail _ (.tail _ (.tail _ (.tail _ (.tail _ (.tail _ (.tail _ (.tail _ (.tail _ (.tail _ (.head _)))))))))))
  go_wp2_with fail
  refine (toByteS_any _ l1 _ (hs1.up H.bel) (by omega)).mono ?_
  rintro e w13 ⟨u13, rfl, ho, hb⟩
  replace H := H.moreB ho hb
  clear ho hb
  clear ba23 bb23 ba24 bb24 ba25 bb25 ba26 bb26
  have ba27 := H.c0 (.tail _ (.head _))
  have bb27 := H.c1 (.tail _ (.head _))
  have ba28 := H.c0 (.tail _ (.tail _ (.tail _ (.tail _ (.tail _ (.head _))))))
  have bb28 := H.c1 (.tail _ (.tail _ (.tail _ (.tail _ (.tail _ (.head _))))))
  have ba29 := H.c0 (.tail _ (.tail _ (.tail _ (.tail _ (.tail _ (.tail _ (.tail _ (.tail _ (.head _)))))))))
  have bb29 := H.c1 (.tail _ (.tail _ (.tail _ (.tail _ (.tail _ (.tail _ (.tail _ (.tail _ (.head _)))))))))
  have ba30 := H.c0 (.tail _ (.tail _ (.tail _ (.tail _ (.tail _ (.tail _ (.tail _ (.tail _ (.tail _ (.tail _ (.tail _ (.head _))))))))))))
  have bb30 := H.c1 (.tail _ (.tail _ (.tail _ (.tail _ (.tail _ (.tail _ (.tail _ (.tail _ (.tail _ (.tail _ (.tail _ (.head _))))))))))))
  go_wp2_with fail
  refine (eqByteS_any _ _ l1 _ (H.slB 5 (.tail _ (.tail _ (.tail _ (.tail _ (.head _)))))) (H.slB 5 (.head _))).mono ?_
  rintro e _ ⟨rfl, d14, rfl⟩
  replace H := H.drewN d14
  replace H := H.sub (qs := [segV 27 w8.heap.size (.slice A8x R.length c8x) (.slice A8y RL.length c8y), segI 3 (.slice A8x R.length c8x) R, segS 22 5 (.slice A8y RL.length c8y) vs8 RL, segB 5 u7 l1, segV 27 w5.heap.size (.slice A5x I0.length c5x) (.slice A5y M0.length c5y), segI 3 (.slice A5x I0.length c5x) I0, segS 22 5 (.slice A5y M0.length c5y) vs5 M0, segV 27 w3.heap.size (.slice A3x R.length c3x) (.slice A3y RL.length c3y), segI 3 (.slice A3x R.length c3x) R, segS 22 5 (.slice A3y RL.length c3y) vs3 RL, segV 38 W.heap.size (.slice A0 I0.length c0) (.slice A0' M0.length c0')]) (.cons _ (.cons_cons _ (.cons_cons _ (.cons_cons _ (.cons_cons _ (.cons_cons _ (.cons_cons _ (.cons_cons _ (.cons_cons _ (.cons_cons _ (.cons_cons _ (.cons_cons _ .slnil))))))))))))
  replace H : InvF W _ [segS 22 5 (.slice A5y M0.length c5y) vs5 M0, segV 27 w8.heap.size (.slice A8x R.length c8x) (.slice A8y RL.length c8y), segI 3 (.slice A8x R.length c8x) R, segS 22 5 (.slice A8y RL.length c8y) vs8 RL, segB 5 u7 l1, segV 27 w5.heap.size (.slice A5x I0.length c5x) (.slice A5y M0.length c5y), segI 3 (.slice A5x I0.length c5x) I0, segV 27 w3.heap.size (.slice A3x R.length c3x) (.slice A3y RL.length c3y), segI 3 (.slice A3x R.length c3x) R, segS 22 5 (.slice A3y RL.length c3y) vs3 RL, segV 38 W.heap.size (.slice A0 I0.length c0) (.slice A0' M0.length c0')] := H.front 6 rfl
  replace H : InvF W _ [segI 3 (.slice A5x I0.length c5x) I0, segS 22 5 (.slice A5y M0.length c5y) vs5 M0, segV 27 w8.heap.size (.slice A8x R.length c8x) (.slice A8y RL.length c8y), segI 3 (.slice A8x R.length c8x) R, segS 22 5 (.slice A8y RL.length c8y) vs8 RL, segB 5 u7 l1, segV 27 w5.heap.size (.slice A5x I0.length c5x) (.slice A5y M0.length c5y), segV 27 w3.heap.size (.slice A3x R.length c3x) (.slice A3y RL.length c3y), segI 3 (.slice A3x R.length c3x) R, segS 22 5 (.slice A3y RL.length c3y) vs3 RL, segV 38 W.heap.size (.slice A0 I0.length c0) (.slice A0' M0.length c0')] := H.front 6 rfl
  clear ba27 bb27 ba28 bb28 ba29 bb29 ba30 bb30
  have ba31 := H.c0 (.tail _ (.tail _ (.head _)))
  have bb31 := H.c1 (.tail _ (.tail _ (.head _)))
  have ba32 := H.c0 (.tail _ (.tail _ (.tail _ (.tail _ (.tail _ (.tail _ (.head _)))))))
  have bb32 := H.c1 (.tail _ (.tail _ (.tail _ (.tail _ (.tail _ (.tail _ (.head _)))))))
  have ba33 := H.c0 (.tail _ (.tail _ (.tail _ (.tail _ (.tail _ (.tail _ (.tail _ (.head _))))))))
  have bb33 := H.c1 (.tail _ (.tail _ (.tail _ (.tail _ (.tail _ (.tail _ (.tail _ (.head _))))))))
  have ba34 := H.c0 (.tail _ (.tail _ (.tail _ (.tail _ (.tail _ (.tail _ (.tail _ (.tail _ (.tail _ (.tail _ (.head _)))))))))))
  have bb34 := H.c1 (.tail _ (.tail _ (.tail _ (.tail _ (.tail _ (.tail _ (.tail _ (.tail _ (.tail _ (.tail _ (.head _)))))))))))
  go_wp2_with fail
  refine (markStack_any W _ _ _ _ I0 M0 _ (1) _ HV5.out H rfl (by omega) (by omega) (by omega) (by omega)).mono ?_
  rintro e w15 ⟨rfl, K⟩
  replace H := K
  clear K
  have HV15 : Hid (vs5.length = (marksS (1 + I0.length) M0).length) := Lib.hid (HV5.out.trans (marksS_length _ _).symm)
  replace H : InvF W _ [segB 5 u7 l1, segI 3 (.slice A5x I0.length c5x) (marksI (1) I0.length), segS 22 5 (.slice A5y M0.length c5y) vs5 (marksS (1 + I0.length) M0), segV 27 w8.heap.size (.slice A8x R.length c8x) (.slice A8y RL.length c8y), segI 3 (.slice A8x R.length c8x) R, segS 22 5 (.slice A8y RL.length c8y) vs8 RL, segV 27 w5.heap.size (.slice A5x I0.length c5x) (.slice A5y M0.length c5y), segV 27 w3.heap.size (.slice A3x R.length c3x) (.slice A3y RL.length c3y), segI 3 (.slice A3x R.length c3x) R, segS 22 5 (.slice A3y RL.length c3y) vs3 RL, segV 38 W.heap.size (.slice A0 I0.length c0) (.slice A0' M0.length c0')] := H.front 5 rfl
  clear ba31 bb31 ba32 bb32 ba33 bb33 ba34 bb34
  have ba35 := H.c0 (.tail _ (.tail _ (.tail _ (.head _))))
  have bb35 := H.c1 (.tail _ (.tail _ (.tail _ (.head _))))
  have ba36 := H.c0 (.tail _ (.tail _ (.tail _ (.tail _ (.tail _ (.tail _ (.head _)))))))
  have bb36 := H.c1 (.tail _ (.tail _ (.tail _ (.tail _ (.tail _ (.tail _ (.head _)))))))
  have ba37 := H.c0 (.tail _ (.tail _ (.tail _ (.tail _ (.tail _ (.tail _ (.tail _ (.head _))))))))
  have bb37 := H.c1 (.tail _ (.tail _ (.tail _ (.tail _ (.tail _ (.tail _ (.tail _ (.head _))))))))
  have ba38 := H.c0 (.tail _ (.tail _ (.tail _ (.tail _ (.tail _ (.tail _ (.tail _ (.tail _ (.tail _ (.tail _ (.head _)))))))))))
  have bb38 := H.c1 (.tail _ (.tail _ (.tail _ (.tail _ (.tail _ (.tail _ (.tail _ (.tail _ (.tail _ (.tail _ (.head _)))))))))))
  go_wp2_with fail
  refine (markByteS_z _ l1 (1 + I0.length + sumL M0) _ _ _ (H.ownB 5 (.head _)) (by simp) (by omega) (by omega)).mono ?_
  rintro e w16 ⟨rfl, ho, hg⟩
  replace H := H.wroteB ho hg
  clear ho hg
  have hltk : ¬ ((1 : Int) + (I0.length : Int) + (sumL M0 : Int) + (l1.length : Int) < 0) := by omega
  clear ba35 bb35 ba36 bb36 ba37 bb37 ba38 bb38
  have ba39 := H.c0 (.tail _ (.tail _ (.tail _ (.head _))))
  have bb39 := H.c1 (.tail _ (.tail _ (.tail _ (.head _))))
  have ba40 := H.c0 (.tail _ (.tail _ (.tail _ (.tail _ (.tail _ (.tail _ (.head _)))))))
  have bb40 := H.c1 (.tail _ (.tail _ (.tail _ (.tail _ (.tail _ (.tail _ (.head _)))))))
  have ba41 := H.c0 (.tail _ (.tail _ (.tail _ (.tail _ (.tail _ (.tail _ (.tail _ (.head _))))))))
  have bb41 := H.c1 (.tail _ (.tail _ (.tail _ (.tail _ (.tail _ (.tail _ (.tail _ (.head _))))))))
  have ba42 := H.c0 (.tail _ (.tail _ (.tail _ (.tail _ (.tail _ (.tail _ (.tail _ (.tail _ (.tail _ (.tail _ (.head _)))))))))))
  have bb42 := H.c1 (.tail _ (.tail _ (.tail _ (.tail _ (.tail _ (.tail _ (.tail _ (.tail _ (.tail _ (.tail _ (.head _)))))))))))
  go_wp2_with fail
  refine (eqStack_any _ _ R RL _ (H.slK HV8.out (.tail _ (.tail _ (.tail _ (.tail _ (.head _))))) (.tail _ (.tail _ (.tail _ (.tail _ (.tail _ (.head _))))))) (H.slK HV3.out (.tail _ (.tail _ (.tail _ (.tail _ (.tail _ (.tail _ (.tail _ (.tail _ (.head _))))))))) (.tail _ (.tail _ (.tail _ (.tail _ (.tail _ (.tail _ (.tail _ (.tail _ (.tail _ (.head _)))))))))))).mono ?_
  rintro e w17 ⟨rfl, hb⟩
  replace H := H.up hb
  clear hb
  replace H := H.sub (qs := [segV 27 w8.heap.size (.slice A8x R.length c8x) (.slice A8y RL.length c8y), segI 3 (.slice A8x R.length c8x) R, segS 22 5 (.slice A8y RL.length c8y) vs8 RL, segV 27 w3.heap.size (.slice A3x R.length c3x) (.slice A3y RL.length c3y), segI 3 (.slice A3x R.length c3x) R, segS 22 5 (.slice A3y RL.length c3y) vs3 RL, segV 38 W.heap.size (.slice A0 I0.length c0) (.slice A0' M0.length c0')]) (.cons _ (.cons _ (.cons _ (.cons_cons _ (.cons_cons _ (.cons_cons _ (.cons _ (.cons_cons _ (.cons_cons _ (.cons_cons _ (.cons_cons _ .slnil)))))))))))
  replace H : InvF W _ [segS 22 5 (.slice A8y RL.length c8y) vs8 RL, segV 27 w8.heap.size (.slice A8x R.length c8x) (.slice A8y RL.length c8y), segI 3 (.slice A8x R.length c8x) R, segV 27 w3.heap.size (.slice A3x R.length c3x) (.slice A3y RL.length c3y), segI 3 (.slice A3x R.length c3x) R, segS 22 5 (.slice A3y RL.length c3y) vs3 RL, segV 38 W.heap.size (.slice A0 I0.length c0) (.slice A0' M0.length c0')] := H.front 2 rfl
  replace H : InvF W _ [segI 3 (.slice A8x R.length c8x) R, segS 22 5 (.slice A8y RL.length c8y) vs8 RL, segV 27 w8.heap.size (.slice A8x R.length c8x) (.slice A8y RL.length c8y), segV 27 w3.heap.size (.slice A3x R.length c3x) (.slice A3y RL.length c3y), segI 3 (.slice A3x R.length c3x) R, segS 22 5 (.slice A3y RL.length c3y) vs3 RL, segV 38 W.heap.size (.slice A0 I0.length c0) (.slice A0' M0.length c0')] := H.front 2 rfl
  clear ba39 bb39 ba40 bb40 ba41 bb41 ba42 bb42
  have ba43 := H.c0 (.tail _ (.tail _ (.head _)))
  have bb43 := H.c1 (.tail _ (.tail _ (.head _)))
  have ba44 := H.c0 (.tail _ (.tail _ (.tail _ (.head _))))
  have bb44 := H.c1 (.tail _ (.tail _ (.tail _ (.head _))))
  have ba45 := H.c0 (.tail _ (.tail _ (.tail _ (.tail _ (.tail _ (.tail _ (.head _)))))))
  have bb45 := H.c1 (.tail _ (.tail _ (.tail _ (.tail _ (.tail _ (.tail _ (.head _)))))))
  go_wp2_with fail
  refine (markStack_any W _ _ _ _ R RL _ (1) _ HV8.out H rfl (by omega) (by omega) (by omega) (by omega)).mono ?_
  rintro e w18 ⟨rfl, K⟩
  replace H := K
  clear K
  have HV18 : Hid (vs8.length = (marksS (1 + R.length) RL).length) := Lib.hid (HV8.out.trans (marksS_length _ _).symm)
  clear ba43 bb43 ba44 bb44 ba45 bb45
  have ba46 := H.c0 (.tail _ (.tail _ (.head _)))
  have bb46 := H.c1 (.tail _ (.tail _ (.head _)))
  have ba47 := H.c0 (.tail _ (.tail _ (.tail _ (.head _))))
  have bb47 := H.c1 (.tail _ (.tail _ (.tail _ (.head _))))
  have ba48 := H.c0 (.tail _ (.tail _ (.tail _ (.tail _ (.tail _ (.tail _ (.head _)))))))
  have bb48 := H.c1 (.tail _ (.tail _ (.tail _ (.tail _ (.tail _ (.tail _ (.head _)))))))
  go_wp2_with fail
  refine (heldStack_z _ 1 R.length RL _ _ (H.slK HV18.out (.head _) (.tail _ (.head _))) rfl (by omega) (by omega) (by omega)).mono ?_
  rintro e w19 ⟨rfl, hb⟩
  replace H := H.up hb
  clear hb
  have hltL : ¬ ((1 : Int) + (R.length : Int) + (sumL RL : Int) < 0) := by omega
  have hneL : ((1 : Int) + (R.length : Int) + (sumL RL : Int) != 1 + (R.length : Int) + (sumL RL : Int)) = false := by simp
  clear ba46 bb46 ba47 bb47 ba48 bb48
  have ba49 := H.c0 (.tail _ (.tail _ (.head _)))
  have bb49 := H.c1 (.tail _ (.tail _ (.head _)))
  have ba50 := H.c0 (.tail _ (.tail _ (.tail _ (.head _))))
  have bb50 := H.c1 (.tail _ (.tail _ (.tail _ (.head _))))
  have ba51 := H.c0 (.tail _ (.tail _ (.tail _ (.tail _ (.tail _ (.tail _ (.head _)))))))
  have bb51 := H.c1 (.tail _ (.tail _ (.tail _ (.tail _ (.tail _ (.tail _ (.head _)))))))
  go_wp2_with fail
  refine (toStack_any _ I0 M0 _ (hs0.up H.bel) hH hL hSm).mono ?_
  rintro e w20 hf
  obtain ⟨A20x, c20x, A20y, c20y, vs20, rfl, HV20, K⟩ := FreshK.open hf
  replace H := H.moreF K
  clear K
  replace H : InvF W w20 [segI 3 (.slice A20x I0.length c20x) I0, segS 22 5 (.slice A20y M0.length c20y) vs20 M0, segI 3 (.slice A8x R.length c8x) (marksI (1) R.length), segS 22 5 (.slice A8y RL.length c8y) vs8 (marksS (1 + R.length) RL), segV 27 w8.heap.size (.slice A8x R.length c8x) (.slice A8y RL.length c8y), segV 27 w3.heap.size (.slice A3x R.length c3x) (.slice A3y RL.length c3y), segI 3 (.slice A3x R.length c3x) R, segS 22 5 (.slice A3y RL.length c3y) vs3 RL, segV 38 W.heap.size (.slice A0 I0.length c0) (.slice A0' M0.length c0')] := H
  clear ba49 bb49 ba50 bb50 ba51 bb51
  have ba52 := H.c0 (.tail _ (.tail _ (.tail _ (.tail _ (.head _)))))
  have bb52 := H.c1 (.tail _ (.tail _ (.tail _ (.tail _ (.head _)))))
  have ba53 := H.c0 (.tail _ (.tail _ (.tail _ (.tail _ (.tail _ (.head _))))))
  have bb53 := H.c1 (.tail _ (.tail _ (.tail _ (.tail _ (.tail _ (.head _))))))
  have ba54 := H.c0 (.tail _ (.tail _ (.tail _ (.tail _ (.tail _ (.tail _ (.tail _ (.tail _ (.head _)))))))))
  have bb54 := H.c1 (.tail _ (.tail _ (.tail _ (.tail _ (.tail _ (.tail _ (.tail _ (.tail _ (.head _)))))))))
  go_wp2_with fail
  refine (toByteS_any _ l1 _ (hs1.up H.bel) (by omega)).mono ?_
  rintro e w21 ⟨u21, rfl, ho, hb⟩
  replace H := H.moreB ho hb
  clear ho hb
  clear ba52 bb52 ba53 bb53 ba54 bb54
  have ba55 := H.c0 (.tail _ (.tail _ (.tail _ (.tail _ (.tail _ (.head _))))))
  have bb55 := H.c1 (.tail _ (.tail _ (.tail _ (.tail _ (.tail _ (.head _))))))
  have ba56 := H.c0 (.tail _ (.tail _ (.tail _ (.tail _ (.tail _ (.tail _ (.head _)))))))
  have bb56 := H.c1 (.tail _ (.tail _ (.tail _ (.tail _ (.tail _ (.tail _ (.head _)))))))
  have ba57 := H.c0 (.tail _ (.tail _ (.tail _ (.tail _ (.tail _ (.tail _ (.tail _ (.tail _ (.tail _ (.head _))))))))))
  have bb57 := H.c1 (.tail _ (.tail _ (.tail _ (.tail _ (.tail _ (.tail _ (.tail _ (.tail _ (.tail _ (.head _))))))))))
  go_wp2_with fail
  refine (implStackPush_any _ _ I0 M0 l1 _ (H.slK HV20.out (.tail _ (.head _)) (.tail _ (.tail _ (.head _)))) (H.slB 5 (.head _))  (hgI.up H.bel) (hg.up H.bel)).mono ?_
  rw [← HR.out, ← HRL.out, ← HB0.out]
  rintro e w22 hf
  obtain ⟨A22x, c22x, A22y, c22y, vs22, rfl, HV22, K⟩ := FreshKB.open hf
  replace H := H.moreF K
  clear K
  replace H : InvF W w22 [segI 3 (.slice A22x R.length c22x) R, segS 22 5 (.slice A22y RL.length c22y) vs22 RL, segB 5 u21 l1, segI 3 (.slice A20x I0.length c20x) I0, segS 22 5 (.slice A20y M0.length c20y) vs20 M0, segI 3 (.slice A8x R.length c8x) (marksI (1) R.length), segS 22 5 (.slice A8y RL.length c8y) vs8 (marksS (1 + R.length) RL), segV 27 w8.heap.size (.slice A8x R.length c8x) (.slice A8y RL.length c8y), segV 27 w3.heap.size (.slice A3x R.length c3x) (.slice A3y RL.length c3y), segI 3 (.slice A3x R.length c3x) R, segS 22 5 (.slice A3y RL.length c3y) vs3 RL, segV 38 W.heap.size (.slice A0 I0.length c0) (.slice A0' M0.length c0')] := H
  replace H := H.box 27 (a := (.slice A22x R.length c22x)) (s := (.slice A22y RL.length c22y))
  clear ba55 bb55 ba56 bb56 ba57 bb57
  have ba58 := H.c0 (.head _)
  have bb58 := H.c1 (.head _)
  have ba59 := H.c0 (.tail _ (.tail _ (.tail _ (.tail _ (.tail _ (.tail _ (.tail _ (.tail _ (.head _)))))))))
  have bb59 := H.c1 (.tail _ (.tail _ (.tail _ (.tail _ (.tail _ (.tail _ (.tail _ (.tail _ (.head _)))))))))
  have ba60 := H.c0 (.tail _ (.tail _ (.tail _ (.tail _ (.tail _ (.tail _ (.tail _ (.tail _ (.tail _ (.head _))))))))))
  have bb60 := H.c1 (.tail _ (.tail _ (.tail _ (.tail _ (.tail _ (.tail _ (.tail _ (.tail _ (.tail _ (.head _))))))))))
  have ba61 := H.c0 (.tail _ (.tail _ (.tail _ (.tail _ (.tail _ (.tail _ (.tail _ (.tail _ (.tail _ (.tail _ (.tail _ (.tail _ (.head _)))))))))))))
  have bb61 := H.c1 (.tail _ (.tail _ (.tail _ (.tail _ (.tail _ (.tail _ (.tail _ (.tail _ (.tail _ (.tail _ (.tail _ (.tail _ (.head _)))))))))))))
  go_wp2_with fail
  refine (eqStack_any _ _ R RL _ (H.slK HV22.out (.tail _ (.head _)) (.tail _ (.tail _ (.head _)))) (H.slK HV3.out (.tail _ (.tail _ (.tail _ (.tail _ (.tail _ (.tail _ (.tail _ (.tail _ (.tail _ (.tail _ (.head _))))))))))) (.tail _ (.tail _ (.tail _ (.tail _ (.tail _ (.tail _ (.tail _ (.tail _ (.tail _ (.tail _ (.tail _ (.head _)))))))))))))).mono ?_
  rintro e w24 ⟨rfl, hb⟩
  replace H := H.up hb
  clear hb
  clear ba58 bb58 ba59 bb59 ba60 bb60 ba61 bb61
  have ba62 := H.c0 (.head _)
  have bb62 := H.c1 (.head _)
  have ba63 := H.c0 (.tail _ (.tail _ (.tail _ (.tail _ (.tail _ (.tail _ (.tail _ (.tail _ (.head _)))))))))
  have bb63 := H.c1 (.tail _ (.tail _ (.tail _ (.tail _ (.tail _ (.tail _ (.tail _ (.tail _ (.head _)))))))))
  have ba64 := H.c0 (.tail _ (.tail _ (.tail _ (.tail _ (.tail _ (.tail _ (.tail _ (.tail _ (.tail _ (.head _))))))))))
  have bb64 := H.c1 (.tail _ (.tail _ (.tail _ (.tail _ (.tail _ (.tail _ (.tail _ (.tail _ (.tail _ (.head _))))))))))
  have ba65 := H.c0 (.tail _ (.tail _ (.tail _ (.tail _ (.tail _ (.tail _ (.tail _ (.tail _ (.tail _ (.tail _ (.tail _ (.tail _ (.head _)))))))))))))
  have bb65 := H.c1 (.tail _ (.tail _ (.tail _ (.tail _ (.tail _ (.tail _ (.tail _ (.tail _ (.tail _ (.tail _ (.tail _ (.tail _ (.head _)))))))))))))
  go_wp2_with fail
  refine (heldStack_z _ 1 R.length RL _ _ (H.slK HV18.out (.tail _ (.tail _ (.tail _ (.tail _ (.tail _ (.tail _ (.head _))))))) (.tail _ (.tail _ (.tail _ (.tail _ (.tail _ (.tail _ (.tail _ (.head _))))))))) rfl (by omega) (by omega) (by omega)).mono ?_
  rintro e w25 ⟨rfl, hb⟩
  replace H := H.up hb
  clear hb
  clear ba62 bb62 ba63 bb63 ba64 bb64 ba65 bb65
  have ba66 := H.c0 (.head _)
  have bb66 := H.c1 (.head _)
  have ba67 := H.c0 (.tail _ (.tail _ (.tail _ (.tail _ (.tail _ (.tail _ (.tail _ (.tail _ (.head _)))))))))
  have bb67 := H.c1 (.tail _ (.tail _ (.tail _ (.tail _ (.tail _ (.tail _ (.tail _ (.tail _ (.head _)))))))))
  have ba68 := H.c0 (.tail _ (.tail _ (.tail _ (.tail _ (.tail _ (.tail _ (.tail _ (.tail _ (.tail _ (.head _))))))))))
  have bb68 := H.c1 (.tail _ (.tail _ (.tail _ (.tail _ (.tail _ (.tail _ (.tail _ (.tail _ (.tail _ (.head _))))))))))
  have ba69 := H.c0 (.tail _ (.tail _ (.tail _ (.tail _ (.tail _ (.tail _ (.tail _ (.tail _ (.tail _ (.tail _ (.tail _ (.tail _ (.head _)))))))))))))
  have bb69 := H.c1 (.tail _ (.tail _ (.tail _ (.tail _ (.tail _ (.tail _ (.tail _ (.tail _ (.tail _ (.tail _ (.tail _ (.tail _ (.head _)))))))))))))
  go_wp2_with fail
  go_ret
  exact ⟨rfl, by have hfin := H.bel; simpa using hfin⟩
end Go.Proofs.YtdoaikanaodefaaDoor
