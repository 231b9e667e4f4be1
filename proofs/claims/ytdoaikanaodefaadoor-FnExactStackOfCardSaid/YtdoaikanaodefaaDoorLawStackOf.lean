/- The walk of the exact law of StackOf: for every argument the law answers true and leaves all memory that was there as it was. -/
import Derived.Test.YtdoaikanaodefaaDoorStackOfS
import Derived.Test.YtdoaikanaodefaaDoorStackSeg
import Derived.Deep.RegionHeld3
namespace Go.Proofs.YtdoaikanaodefaaDoor
open Go.ChangeShapes Go.WideShapes Go.ChangeAt Go.RowKit

set_option maxRecDepth 100000 in
set_option maxHeartbeats 8000000 in
theorem StackOf_walk (v0 : Value) (l0 : List (List UInt8)) (W : World) (h0 : SlS W W.heap.size v0 l0) (hgI : Glob W 0 initW) (hg : Glob W 1 kk) :
    Calls Tryd.prog 5 #[v0] W (Yes W) := by
  have hs0 := h0
  obtain ⟨A0, c0, rfl, p0, q0, r0, z0⟩ := h0
  unfold maxLen at q0
  clear r0 z0
  by_cases hbig : 1048576 < (l0.length : Int) + (sumL l0 : Int)
  · have HZ : Hid (szZ l0 1048576 = -1) := Lib.hid (by unfold szZ; rw [if_pos hbig])
    clear hbig
    have H : InvF W W [] := InvF.start W
    go_enter Tryd.func5, Tryd.ntmps5
    go_wp2_with fail
    refine (szByteSS_any _ l0 1048576 _ (hs0.up H.bel) (by omega) (by omega)).mono ?_
    rw [HZ.out]
    rintro e w' ⟨rfl, hw⟩
    obtain rfl : W = w' := hw.symm
    go_wp2
    go_ret
    exact ⟨rfl, H.bel⟩
  obtain ⟨zz, hz⟩ : ∃ z, z = 1048576 - ((l0.length : Int) + (sumL l0 : Int)) := ⟨_, rfl⟩
  have HZ : Hid (szZ l0 1048576 = zz) := Lib.hid (by unfold szZ; rw [if_neg hbig]; omega)
  have hzlo : 0 ≤ zz := by omega
  have hzhi : zz ≤ 1048576 := by omega
  have hzn : ¬ (zz < 0) := by omega
  have hL : l0.length ≤ 1048576 := by omega
  have hSm : sumL l0 ≤ 1048576 := by omega
  clear hbig hz
  have hp : (skH l0).length ≤ 4194304 ∧ sumL (skS l0) ≤ 1073741824 := by have := sk_small l0; omega
  obtain ⟨R, hR⟩ : ∃ R, R = skH l0 := ⟨_, rfl⟩
  obtain ⟨RL, hRL⟩ : ∃ R, R = skS l0 := ⟨_, rfl⟩
  rw [← hR, ← hRL] at hp
  obtain ⟨hp, hpS⟩ := hp
  have HR := Lib.hid hR
  have HRL := Lib.hid hRL
  clear hR hRL
  obtain ⟨b0, hB⟩ : ∃ b, b = skB l0 := ⟨_, rfl⟩
  have HB0 := Lib.hid hB
  clear hB
  have hbb0 : (b0 != b0) = false := by simp
  have H : InvF W W [] := InvF.start W
  go_enter Tryd.func5, Tryd.ntmps5
  go_wp2_with fail
  refine (szByteSS_any _ l0 1048576 _ (hs0.up H.bel) (by omega) (by omega)).mono ?_
  rw [HZ.out]
  rintro e w' ⟨rfl, hw⟩
  obtain rfl : W = w' := hw.symm
  go_wp2_with fail
  refine (toByteSS_any _ l0 _ (hs0.up H.bel) hL hSm).mono ?_
  rintro e w1 ⟨u1, vs1, rfl, hvv, K⟩
  have HV1 := Lib.hid hvv
  replace H := H.more (s := segS 22 5 u1 vs1 l0) K
  clear hvv K
  go_wp2_with fail
  refine (specStackOf_any _ l0 _ (H.slS 22 5 HV1.out (.head _)) hSm ).mono ?_
  rw [← HR.out, ← HRL.out, ← HB0.out]
  rintro e w2 hf
  obtain ⟨A2x, c2x, A2y, c2y, vs2, rfl, HV2, K⟩ := FreshKB.open hf
  replace H := H.moreF K
  clear K
  replace H : InvF W w2 [segI 3 (.slice A2x R.length c2x) R, segS 22 5 (.slice A2y RL.length c2y) vs2 RL, segS 22 5 u1 vs1 l0] := H
  replace H := H.sub (qs := [segI 3 (.slice A2x R.length c2x) R, segS 22 5 (.slice A2y RL.length c2y) vs2 RL]) (.cons_cons _ (.cons_cons _ (.cons _ .slnil)))
  replace H := H.box 27 (a := (.slice A2x R.length c2x)) (s := (.slice A2y RL.length c2y))
  have ba1 := H.c0 (.head _)
  have bb1 := H.c1 (.head _)
  go_wp2_with fail
  refine (toByteSS_any _ l0 _ (hs0.up H.bel) hL hSm).mono ?_
  rintro e w4 ⟨u4, vs4, rfl, hvv, K⟩
  have HV4 := Lib.hid hvv
  replace H := H.more (s := segS 22 5 u4 vs4 l0) K
  clear hvv K
  clear ba1 bb1
  have ba2 := H.c0 (.tail _ (.head _))
  have bb2 := H.c1 (.tail _ (.head _))
  go_wp2_with fail
  refine (implStackOf_any _ l0 _ (H.slS 22 5 HV4.out (.head _)) hSm (hgI.up H.bel) (hg.up H.bel)).mono ?_
  rw [← HR.out, ← HRL.out, ← HB0.out]
  rintro e w5 hf
  obtain ⟨A5x, c5x, A5y, c5y, vs5, rfl, HV5, K⟩ := FreshKB.open hf
  replace H := H.moreF K
  clear K
  replace H : InvF W w5 [segI 3 (.slice A5x R.length c5x) R, segS 22 5 (.slice A5y RL.length c5y) vs5 RL, segS 22 5 u4 vs4 l0, segV 27 w2.heap.size (.slice A2x R.length c2x) (.slice A2y RL.length c2y), segI 3 (.slice A2x R.length c2x) R, segS 22 5 (.slice A2y RL.length c2y) vs2 RL] := H
  replace H := H.box 27 (a := (.slice A5x R.length c5x)) (s := (.slice A5y RL.length c5y))
  clear ba2 bb2
  have ba3 := H.c0 (.head _)
  have bb3 := H.c1 (.head _)
  have ba4 := H.c0 (.tail _ (.tail _ (.tail _ (.tail _ (.head _)))))
  have bb4 := H.c1 (.tail _ (.tail _ (.tail _ (.tail _ (.head _)))))
  go_wp2_with fail
  refine (eqStack_any _ _ R RL _ (H.slK HV5.out (.tail _ (.head _)) (.tail _ (.tail _ (.head _)))) (H.slK HV2.out (.tail _ (.tail _ (.tail _ (.tail _ (.tail _ (.head _)))))) (.tail _ (.tail _ (.tail _ (.tail _ (.tail _ (.tail _ (.head _))))))))).mono ?_
  rintro e w7 ⟨rfl, hb⟩
  replace H := H.up hb
  clear hb
  clear ba3 bb3 ba4 bb4
  have ba5 := H.c0 (.head _)
  have bb5 := H.c1 (.head _)
  have ba6 := H.c0 (.tail _ (.tail _ (.tail _ (.tail _ (.head _)))))
  have bb6 := H.c1 (.tail _ (.tail _ (.tail _ (.tail _ (.head _)))))
  go_wp2_with fail
  refine (toByteSS_any _ l0 _ (hs0.up H.bel) hL hSm).mono ?_
  rintro e w8 ⟨u8, vs8, rfl, hvv, K⟩
  have HV8 := Lib.hid hvv
  replace H := H.more (s := segS 22 5 u8 vs8 l0) K
  clear hvv K
  clear ba5 bb5 ba6 bb6
  have ba7 := H.c0 (.tail _ (.head _))
  have bb7 := H.c1 (.tail _ (.head _))
  have ba8 := H.c0 (.tail _ (.tail _ (.tail _ (.tail _ (.tail _ (.head _))))))
  have bb8 := H.c1 (.tail _ (.tail _ (.tail _ (.tail _ (.tail _ (.head _))))))
  go_wp2_with fail
  refine (eqByteSS_any _ _ l0 _ (H.slS 22 5 HV4.out (.tail _ (.tail _ (.tail _ (.tail _ (.head _)))))) (H.slS 22 5 HV8.out (.head _))).mono ?_
  rintro e _ ⟨rfl, d9, rfl⟩
  replace H := H.drewN d9
  replace H := H.sub (qs := [segV 27 w5.heap.size (.slice A5x R.length c5x) (.slice A5y RL.length c5y), segI 3 (.slice A5x R.length c5x) R, segS 22 5 (.slice A5y RL.length c5y) vs5 RL, segS 22 5 u4 vs4 l0, segV 27 w2.heap.size (.slice A2x R.length c2x) (.slice A2y RL.length c2y), segI 3 (.slice A2x R.length c2x) R, segS 22 5 (.slice A2y RL.length c2y) vs2 RL]) (.cons _ (.cons_cons _ (.cons_cons _ (.cons_cons _ (.cons_cons _ (.cons_cons _ (.cons_cons _ (.cons_cons _ .slnil))))))))
  replace H : InvF W _ [segS 22 5 u4 vs4 l0, segV 27 w5.heap.size (.slice A5x R.length c5x) (.slice A5y RL.length c5y), segI 3 (.slice A5x R.length c5x) R, segS 22 5 (.slice A5y RL.length c5y) vs5 RL, segV 27 w2.heap.size (.slice A2x R.length c2x) (.slice A2y RL.length c2y), segI 3 (.slice A2x R.length c2x) R, segS 22 5 (.slice A2y RL.length c2y) vs2 RL] := H.front 3 rfl
  clear ba7 bb7 ba8 bb8
  have ba9 := H.c0 (.tail _ (.head _))
  have bb9 := H.c1 (.tail _ (.head _))
  have ba10 := H.c0 (.tail _ (.tail _ (.tail _ (.tail _ (.head _)))))
  have bb10 := H.c1 (.tail _ (.tail _ (.tail _ (.tail _ (.head _)))))
  go_wp2_with fail
  refine (markByteSS_z W _ _ _ l0 _ (1) _ HV4.out H rfl (by omega) (by omega)).mono ?_
  rintro e w10 ⟨rfl, K⟩
  replace H := K
  clear K
  have HV10 : Hid (vs4.length = (marksS (1) l0).length) := Lib.hid (HV4.out.trans (marksS_length _ _).symm)
  have hltk : ¬ ((1 : Int) + (sumL l0 : Int) < 0) := by omega
  clear ba9 bb9 ba10 bb10
  have ba11 := H.c0 (.tail _ (.head _))
  have bb11 := H.c1 (.tail _ (.head _))
  have ba12 := H.c0 (.tail _ (.tail _ (.tail _ (.tail _ (.head _)))))
  have bb12 := H.c1 (.tail _ (.tail _ (.tail _ (.tail _ (.head _)))))
  go_wp2_with fail
  refine (eqStack_any _ _ R RL _ (H.slK HV5.out (.tail _ (.tail _ (.head _))) (.tail _ (.tail _ (.tail _ (.head _))))) (H.slK HV2.out (.tail _ (.tail _ (.tail _ (.tail _ (.tail _ (.head _)))))) (.tail _ (.tail _ (.tail _ (.tail _ (.tail _ (.tail _ (.head _))))))))).mono ?_
  rintro e w11 ⟨rfl, hb⟩
  replace H := H.up hb
  clear hb
  replace H := H.sub (qs := [segV 27 w5.heap.size (.slice A5x R.length c5x) (.slice A5y RL.length c5y), segI 3 (.slice A5x R.length c5x) R, segS 22 5 (.slice A5y RL.length c5y) vs5 RL, segV 27 w2.heap.size (.slice A2x R.length c2x) (.slice A2y RL.length c2y), segI 3 (.slice A2x R.length c2x) R, segS 22 5 (.slice A2y RL.length c2y) vs2 RL]) (.cons _ (.cons_cons _ (.cons_cons _ (.cons_cons _ (.cons_cons _ (.cons_cons _ (.cons_cons _ .slnil)))))))
  replace H : InvF W _ [segS 22 5 (.slice A5y RL.length c5y) vs5 RL, segV 27 w5.heap.size (.slice A5x R.length c5x) (.slice A5y RL.length c5y), segI 3 (.slice A5x R.length c5x) R, segV 27 w2.heap.size (.slice A2x R.length c2x) (.slice A2y RL.length c2y), segI 3 (.slice A2x R.length c2x) R, segS 22 5 (.slice A2y RL.length c2y) vs2 RL] := H.front 2 rfl
  replace H : InvF W _ [segI 3 (.slice A5x R.length c5x) R, segS 22 5 (.slice A5y RL.length c5y) vs5 RL, segV 27 w5.heap.size (.slice A5x R.length c5x) (.slice A5y RL.length c5y), segV 27 w2.heap.size (.slice A2x R.length c2x) (.slice A2y RL.length c2y), segI 3 (.slice A2x R.length c2x) R, segS 22 5 (.slice A2y RL.length c2y) vs2 RL] := H.front 2 rfl
  clear ba11 bb11 ba12 bb12
  have ba13 := H.c0 (.tail _ (.tail _ (.head _)))
  have bb13 := H.c1 (.tail _ (.tail _ (.head _)))
  have ba14 := H.c0 (.tail _ (.tail _ (.tail _ (.head _))))
  have bb14 := H.c1 (.tail _ (.tail _ (.tail _ (.head _))))
  go_wp2_with fail
  refine (markStack_any W _ _ _ _ R RL _ (1) _ HV5.out H rfl (by omega) (by omega) (by omega) (by omega)).mono ?_
  rintro e w12 ⟨rfl, K⟩
  replace H := K
  clear K
  have HV12 : Hid (vs5.length = (marksS (1 + R.length) RL).length) := Lib.hid (HV5.out.trans (marksS_length _ _).symm)
  clear ba13 bb13 ba14 bb14
  have ba15 := H.c0 (.tail _ (.tail _ (.head _)))
  have bb15 := H.c1 (.tail _ (.tail _ (.head _)))
  have ba16 := H.c0 (.tail _ (.tail _ (.tail _ (.head _))))
  have bb16 := H.c1 (.tail _ (.tail _ (.tail _ (.head _))))
  go_wp2_with fail
  refine (heldStack_z _ 1 R.length RL _ _ (H.slK HV12.out (.head _) (.tail _ (.head _))) rfl (by omega) (by omega) (by omega)).mono ?_
  rintro e w13 ⟨rfl, hb⟩
  replace H := H.up hb
  clear hb
  have hltL : ¬ ((1 : Int) + (R.length : Int) + (sumL RL : Int) < 0) := by omega
  have hneL : ((1 : Int) + (R.length : Int) + (sumL RL : Int) != 1 + (R.length : Int) + (sumL RL : Int)) = false := by simp
  clear ba15 bb15 ba16 bb16
  have ba17 := H.c0 (.tail _ (.tail _ (.head _)))
  have bb17 := H.c1 (.tail _ (.tail _ (.head _)))
  have ba18 := H.c0 (.tail _ (.tail _ (.tail _ (.head _))))
  have bb18 := H.c1 (.tail _ (.tail _ (.tail _ (.head _))))
  go_wp2_with fail
  refine (toByteSS_any _ l0 _ (hs0.up H.bel) hL hSm).mono ?_
  rintro e w14 ⟨u14, vs14, rfl, hvv, K⟩
  have HV14 := Lib.hid hvv
  replace H := H.more (s := segS 22 5 u14 vs14 l0) K
  clear hvv K
  clear ba17 bb17 ba18 bb18
  have ba19 := H.c0 (.tail _ (.tail _ (.tail _ (.head _))))
  have bb19 := H.c1 (.tail _ (.tail _ (.tail _ (.head _))))
  have ba20 := H.c0 (.tail _ (.tail _ (.tail _ (.tail _ (.head _)))))
  have bb20 := H.c1 (.tail _ (.tail _ (.tail _ (.tail _ (.head _)))))
  go_wp2_with fail
  refine (implStackOf_any _ l0 _ (H.slS 22 5 HV14.out (.head _)) hSm (hgI.up H.bel) (hg.up H.bel)).mono ?_
  rw [← HR.out, ← HRL.out, ← HB0.out]
  rintro e w15 hf
  obtain ⟨A15x, c15x, A15y, c15y, vs15, rfl, HV15, K⟩ := FreshKB.open hf
  replace H := H.moreF K
  clear K
  replace H : InvF W w15 [segI 3 (.slice A15x R.length c15x) R, segS 22 5 (.slice A15y RL.length c15y) vs15 RL, segS 22 5 u14 vs14 l0, segI 3 (.slice A5x R.length c5x) (marksI (1) R.length), segS 22 5 (.slice A5y RL.length c5y) vs5 (marksS (1 + R.length) RL), segV 27 w5.heap.size (.slice A5x R.length c5x) (.slice A5y RL.length c5y), segV 27 w2.heap.size (.slice A2x R.length c2x) (.slice A2y RL.length c2y), segI 3 (.slice A2x R.length c2x) R, segS 22 5 (.slice A2y RL.length c2y) vs2 RL] := H
  replace H := H.box 27 (a := (.slice A15x R.length c15x)) (s := (.slice A15y RL.length c15y))
  clear ba19 bb19 ba20 bb20
  have ba21 := H.c0 (.head _)
  have bb21 := H.c1 (.head _)
  have ba22 := H.c0 (.tail _ (.tail _ (.tail _ (.tail _ (.tail _ (.tail _ (.head _)))))))
  have bb22 := H.c1 (.tail _ (.tail _ (.tail _ (.tail _ (.tail _ (.tail _ (.head _)))))))
  have ba23 := H.c0 (.tail _ (.tail _ (.tail _ (.tail _ (.tail _ (.tail _ (.tail _ (.head _))))))))
  have bb23 := H.c1 (.tail _ (.tail _ (.tail _ (.tail _ (.tail _ (.tail _ (.tail _ (.head _))))))))
  go_wp2_with fail
  refine (eqStack_any _ _ R RL _ (H.slK HV15.out (.tail _ (.head _)) (.tail _ (.tail _ (.head _)))) (H.slK HV2.out (.tail _ (.tail _ (.tail _ (.tail _ (.tail _ (.tail _ (.tail _ (.tail _ (.head _))))))))) (.tail _ (.tail _ (.tail _ (.tail _ (.tail _ (.tail _ (.tail _ (.tail _ (.tail _ (.head _)))))))))))).mono ?_
  rintro e w17 ⟨rfl, hb⟩
  replace H := H.up hb
  clear hb
  clear ba21 bb21 ba22 bb22 ba23 bb23
  have ba24 := H.c0 (.head _)
  have bb24 := H.c1 (.head _)
  have ba25 := H.c0 (.tail _ (.tail _ (.tail _ (.tail _ (.tail _ (.tail _ (.head _)))))))
  have bb25 := H.c1 (.tail _ (.tail _ (.tail _ (.tail _ (.tail _ (.tail _ (.head _)))))))
  have ba26 := H.c0 (.tail _ (.tail _ (.tail _ (.tail _ (.tail _ (.tail _ (.tail _ (.head _))))))))
  have bb26 := H.c1 (.tail _ (.tail _ (.tail _ (.tail _ (.tail _ (.tail _ (.tail _ (.head _))))))))
  go_wp2_with fail
  refine (heldStack_z _ 1 R.length RL _ _ (H.slK HV12.out (.tail _ (.tail _ (.tail _ (.tail _ (.head _))))) (.tail _ (.tail _ (.tail _ (.tail _ (.tail _ (.head _))))))) rfl (by omega) (by omega) (by omega)).mono ?_
  rintro e w18 ⟨rfl, hb⟩
  replace H := H.up hb
  clear hb
  clear ba24 bb24 ba25 bb25 ba26 bb26
  have ba27 := H.c0 (.head _)
  have bb27 := H.c1 (.head _)
  have ba28 := H.c0 (.tail _ (.tail _ (.tail _ (.tail _ (.tail _ (.tail _ (.head _)))))))
  have bb28 := H.c1 (.tail _ (.tail _ (.tail _ (.tail _ (.tail _ (.tail _ (.head _)))))))
  have ba29 := H.c0 (.tail _ (.tail _ (.tail _ (.tail _ (.tail _ (.tail _ (.tail _ (.head _))))))))
  have bb29 := H.c1 (.tail _ (.tail _ (.tail _ (.tail _ (.tail _ (.tail _ (.tail _ (.head _))))))))
  go_wp2_with fail
  go_ret
  exact ⟨rfl, by have hfin := H.bel; simpa using hfin⟩
end Go.Proofs.YtdoaikanaodefaaDoor
