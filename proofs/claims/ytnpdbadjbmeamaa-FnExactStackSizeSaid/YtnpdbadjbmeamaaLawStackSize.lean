/- The walk of the exact law of StackSize: for every argument the law answers true and leaves all memory that was there as it was. -/
import Derived.Test.YtnpdbadjbmeamaaStackSize
import Derived.Test.YtnpdbadjbmeamaaStackSeg
import Derived.Deep.RegionHeld3
namespace Go.Proofs.Ytnpdbadjbmeamaa
open Go.ChangeShapes Go.WideShapes Go.ChangeAt Go.RowKit

set_option maxRecDepth 100000 in
set_option maxHeartbeats 8000000 in
theorem StackSize_walk (v0 : Value) (I0 : List Int) (M0 : List (List UInt8)) (W : World) (h0 : SlK W W.heap.size v0 I0 M0)  :
    Calls Try.prog 4 #[v0] W (Yes W) := by
  have hs0 := h0
  obtain ⟨a0, s0, rfl, hI0, hS0⟩ := h0
  obtain ⟨A0, c0, rfl, p0, q0, r0, z0⟩ := hI0
  obtain ⟨A0', c0', rfl, p0', q0', r0', z0'⟩ := hS0
  unfold maxLen at q0 q0'
  clear r0 z0 r0' z0'
  by_cases hbig : 1048576 < (I0.length : Int) + (M0.length : Int) + (sumL M0 : Int)
  · have HZ : Hid (szKZ I0 M0 1048576 = -1) := Lib.hid (by exact szKZ_big hbig)
    clear hbig
    have H : InvF W W [] := InvF.start W
    replace H := H.box 25 (a := .slice A0 I0.length c0) (s := .slice A0' M0.length c0')
    go_enter Try.func4, Try.ntmps4
    have ba1 := H.c0 (.head _)
    have bb1 := H.c1 (.head _)
    go_wp2_with fail
    refine (szStack_any _ I0 M0 1048576 _ (hs0.up H.bel) (by omega) (by omega)).mono ?_
    rw [HZ.out]
    rintro e w0 ⟨rfl, hb⟩
    replace H := H.up hb
    clear hb
    clear ba1 bb1
    have ba2 := H.c0 (.head _)
    have bb2 := H.c1 (.head _)
    go_wp2
    go_ret
    exact ⟨rfl, H.bel⟩
  obtain ⟨zz, hz⟩ : ∃ z, z = 1048576 - ((I0.length : Int) + (M0.length : Int) + (sumL M0 : Int)) := ⟨_, rfl⟩
  have HZ : Hid (szKZ I0 M0 1048576 = zz) := Lib.hid (by rw [hz]; exact szKZ_ok hbig)
  have hzlo : 0 ≤ zz := by omega
  have hzhi : zz ≤ 1048576 := by omega
  have hzn : ¬ (zz < 0) := by omega
  have hH : I0.length ≤ 1048576 := by omega
  have hL : M0.length ≤ 1048576 := by omega
  have hSm : sumL M0 ≤ 1048576 := by omega
  clear hbig hz
  obtain ⟨b0, hB⟩ : ∃ b, b = sizeS I0 M0 := ⟨_, rfl⟩
  have HB0 := Lib.hid hB
  clear hB
  have hbb0 : (b0 != b0) = false := by simp
  have H : InvF W W [] := InvF.start W
  replace H := H.box 25 (a := .slice A0 I0.length c0) (s := .slice A0' M0.length c0')
  go_enter Try.func4, Try.ntmps4
  have ba3 := H.c0 (.head _)
  have bb3 := H.c1 (.head _)
  go_wp2_with fail
  refine (szStack_any _ I0 M0 1048576 _ (hs0.up H.bel) (by omega) (by omega)).mono ?_
  rw [HZ.out]
  rintro e w0 ⟨rfl, hb⟩
  replace H := H.up hb
  clear hb
  clear ba3 bb3
  have ba4 := H.c0 (.head _)
  have bb4 := H.c1 (.head _)
  go_wp2_with fail
  refine (toStack_any _ I0 M0 _ (hs0.up H.bel) hH hL hSm).mono ?_
  rintro e w1 hf
  obtain ⟨A1x, c1x, A1y, c1y, vs1, rfl, HV1, K⟩ := hf.open
  replace H := H.moreF K
  clear K
  replace H : InvF W w1 [segI 3 (.slice A1x I0.length c1x) I0, segS 37 5 (.slice A1y M0.length c1y) vs1 M0, segV 25 W.heap.size (.slice A0 I0.length c0) (.slice A0' M0.length c0')] := H
  clear ba4 bb4
  have ba5 := H.c0 (.tail _ (.tail _ (.head _)))
  have bb5 := H.c1 (.tail _ (.tail _ (.head _)))
  go_wp2_with fail
  refine (specStackSize_any _ I0 M0 _ (H.slK HV1.out (.head _) (.tail _ (.head _)))  ).mono ?_
  rw [← HB0.out]
  rintro e w2 ⟨rfl, hb⟩
  replace H := H.up hb
  clear hb
  replace H := H.sub (qs := [segV 25 W.heap.size (.slice A0 I0.length c0) (.slice A0' M0.length c0')]) (.cons _ (.cons _ (.cons_cons _ .slnil)))
  clear ba5 bb5
  have ba6 := H.c0 (.head _)
  have bb6 := H.c1 (.head _)
  go_wp2_with fail
  refine (toStack_any _ I0 M0 _ (hs0.up H.bel) hH hL hSm).mono ?_
  rintro e w3 hf
  obtain ⟨A3x, c3x, A3y, c3y, vs3, rfl, HV3, K⟩ := hf.open
  replace H := H.moreF K
  clear K
  replace H : InvF W w3 [segI 3 (.slice A3x I0.length c3x) I0, segS 37 5 (.slice A3y M0.length c3y) vs3 M0, segV 25 W.heap.size (.slice A0 I0.length c0) (.slice A0' M0.length c0')] := H
  replace H := H.box 28 (a := (.slice A3x I0.length c3x)) (s := (.slice A3y M0.length c3y))
  clear ba6 bb6
  have ba7 := H.c0 (.head _)
  have bb7 := H.c1 (.head _)
  have ba8 := H.c0 (.tail _ (.tail _ (.tail _ (.head _))))
  have bb8 := H.c1 (.tail _ (.tail _ (.tail _ (.head _))))
  go_wp2_with fail
  refine (implStackSize_any _ I0 M0 _ (H.slK HV3.out (.tail _ (.head _)) (.tail _ (.tail _ (.head _))))  ).mono ?_
  rw [← HB0.out]
  rintro e w5 ⟨rfl, hb⟩
  replace H := H.up hb
  clear hb
  clear ba7 bb7 ba8 bb8
  have ba9 := H.c0 (.head _)
  have bb9 := H.c1 (.head _)
  have ba10 := H.c0 (.tail _ (.tail _ (.tail _ (.head _))))
  have bb10 := H.c1 (.tail _ (.tail _ (.tail _ (.head _))))
  have HC := Lib.hid (And.intro (H.var (.head _)) (H.var (.tail _ (.tail _ (.tail _ (.head _))))))
  have hg1 := H.vlt (.head _)
  have hg2 := H.vlt (.tail _ (.tail _ (.tail _ (.head _))))
  have HD := Lib.hid (H.drewN 1)
  go_wp2_with fail
  go_region_held3 (fun w' => w'.cell? ⟨w3.heap.size, 0, none⟩ = some (.slice A3x I0.length c3x) ∧ w'.cell? ⟨w3.heap.size, 1, none⟩ = some (.slice A3y M0.length c3y) ∧ w'.cell? ⟨W.heap.size, 0, none⟩ = some (.slice A0 I0.length c0) ∧ w'.cell? ⟨W.heap.size, 1, none⟩ = some (.slice A0' M0.length c0'))
    (first
      | exact box4 HC.out hg1 hg2 (below_drewN (Below.refl _ _) 1)
      | exact box4 HC.out hg1 hg2 HBa.out
      | exact box4 HC.out hg1 hg2 HBb.out)
    (first
      | (go_at_call 7; refine (toStack_any _ I0 M0 _ (hs0.up HD.out.bel) hH hL hSm).mono ?_; rintro e w6 hf; obtain ⟨A6x, c6x, A6y, c6y, vs6, rfl, HV6, K⟩ := hf.open;
         have HBa := Lib.hid ((below_drewN (Below.refl _ _) 1).trans K.bel);
         have HE : Hid (InvF W w6 [segI 3 (.slice A6x I0.length c6x) I0, segS 37 5 (.slice A6y M0.length c6y) vs6 M0, segV 28 w3.heap.size (.slice A3x I0.length c3x) (.slice A3y M0.length c3y), segI 3 (.slice A3x I0.length c3x) I0, segS 37 5 (.slice A3y M0.length c3y) vs3 M0, segV 25 W.heap.size (.slice A0 I0.length c0) (.slice A0' M0.length c0')]) := Lib.hid (HD.out.moreF K); clear K)
      | (go_at_call 9; refine (eqStack_any _ _ I0 M0 _ (HE.out.slK HV3.out (.tail _ (.tail _ (.tail _ (.head _)))) (.tail _ (.tail _ (.tail _ (.tail _ (.head _)))))) (HE.out.slK HV6.out (.head _) (.tail _ (.head _)))).mono ?_; rintro e w7 ⟨rfl, hb⟩;
         have HBb := Lib.hid (HBa.out.trans (hb.mono HBa.out.size)); have HF := Lib.hid (HE.out.up hb); clear hb))
  clear H ba9 bb9 ba10 bb10
  have H := HF.out
  clear HBa HBb HD HE HF HC hg1 hg2
  replace H := H.sub (qs := [segV 28 w3.heap.size (.slice A3x I0.length c3x) (.slice A3y M0.length c3y), segI 3 (.slice A3x I0.length c3x) I0, segS 37 5 (.slice A3y M0.length c3y) vs3 M0, segV 25 W.heap.size (.slice A0 I0.length c0) (.slice A0' M0.length c0')]) (.cons _ (.cons _ (.cons_cons _ (.cons_cons _ (.cons_cons _ (.cons_cons _ .slnil))))))
  have ba11 := H.c0 (.head _)
  have bb11 := H.c1 (.head _)
  have ba12 := H.c0 (.tail _ (.tail _ (.tail _ (.head _))))
  have bb12 := H.c1 (.tail _ (.tail _ (.tail _ (.head _))))
  go_wp2_with fail
  go_ret
  exact ⟨rfl, by have hfin := H.bel; simpa using hfin⟩
end Go.Proofs.Ytnpdbadjbmeamaa
