/- The walk of the exact law of TreeRoot: for every argument the law answers true and leaves all memory that was there as it was. -/
import Derived.Test.YtpnfdngacipfgaaDoorTree
import Derived.Test.YtpnfdngacipfgaaDoorSeg
import Derived.Test.YtpnfdngacipfgaaDoorSSBase
namespace Go.Proofs.YtpnfdngacipfgaaDoor
open Go.ChangeShapes Go.WideShapes Go.ChangeAt Go.RowKit

set_option maxRecDepth 100000 in
set_option maxHeartbeats 4000000 in
theorem TreeRoot_walk (v0 : Value) (l0 : List (List UInt8)) (W : World) (h0 : SlS W W.heap.size v0 l0) (hgI : Glob W 0 initW) (hg : Glob W 1 kk) :
    Calls Tryd.prog 6 #[v0] W (Yes W) := by
  have hs0 := h0
  obtain ⟨A0, c0, rfl, p0, q0, r0, z0⟩ := h0
  unfold maxLen at q0
  clear r0 z0
  by_cases hbig0 : 1048576 < (l0.length : Int) + (sumL l0 : Int)
  · have HZ0 : Hid (szZ l0 1048576 = -1) := Lib.hid (by unfold szZ; rw [if_pos hbig0])
    clear hbig0
    go_enter Tryd.func6, Tryd.ntmps6
    go_wp2_with fail
    refine (szByteSS_any _ l0 1048576 _ hs0 (by omega) (by omega)).mono ?_
    rw [HZ0.out]
    rintro e w' ⟨rfl, hw⟩
    obtain rfl : W = w' := hw.symm
    go_wp2
    go_ret
    exact ⟨rfl, Below.refl _ _⟩
  obtain ⟨z0z, hz0⟩ : ∃ z, z = 1048576 - (l0.length : Int) - (sumL l0 : Int) := ⟨_, rfl⟩
  have HZ0 : Hid (szZ l0 1048576 = z0z) := Lib.hid (by unfold szZ; rw [if_neg hbig0]; exact hz0.symm)
  have hzlo0 : 0 ≤ z0z := by omega
  have hzhi0 : z0z ≤ 1048576 := by omega
  have hzn0 : ¬ (z0z < 0) := by omega
  have hbl0 : l0.length ≤ 1048576 := by omega
  have hbs0 : sumL l0 ≤ 1048576 := by omega
  clear hbig0 hz0
  have hp : (treeL l0).length ≤ 1073741824 := by have := treeL_length l0; omega
  obtain ⟨L, hL⟩ : ∃ L, L = treeL l0 := ⟨_, rfl⟩
  rw [← hL] at hp
  have HL := Lib.hid hL
  clear hL
  have H : InvF W W [] := InvF.start W
  go_enter Tryd.func6, Tryd.ntmps6
  go_wp2_with fail
  refine (szByteSS_any _ l0 1048576 _ hs0 (by omega) (by omega)).mono ?_
  rw [HZ0.out]
  rintro e w' ⟨rfl, hw⟩
  obtain rfl : W = w' := hw.symm
  go_wp2_with fail
  refine (toByteSS_any _ l0 _ (hs0.up H.bel) hbl0 hbs0).mono ?_
  rintro e w1 ⟨u1, vs1, rfl, hv, K⟩
  have HVu1 := Lib.hid hv
  replace H := H.more (s := segS 22 5 u1 vs1 l0) K
  clear hv K
  go_wp2_with fail
  refine (specTreeRoot_any _ l0 _ (H.slS 22 5 HVu1.out (.head _)) (by omega) (by omega) ).mono ?_
  rw [← HL.out]
  rintro e w2 ⟨u2, rfl, ho, hb⟩
  replace H := H.moreB ho hb
  clear ho hb
  replace H := H.sub (qs := [segB 5 u2 L]) (.cons_cons _ (.cons _ .slnil))
  go_wp2_with fail
  refine (toByteSS_any _ l0 _ (hs0.up H.bel) hbl0 hbs0).mono ?_
  rintro e w3 ⟨u3, vs3, rfl, hv, K⟩
  have HVu3 := Lib.hid hv
  replace H := H.more (s := segS 22 5 u3 vs3 l0) K
  clear hv K
  go_wp2_with fail
  refine (implTreeRoot_any _ l0 _ (H.slS 22 5 HVu3.out (.head _)) (by omega) (by omega) (hgI.up H.bel) (hg.up H.bel)).mono ?_
  rw [← HL.out]
  rintro e w4 ⟨u4, rfl, ho, hb⟩
  replace H := H.moreB ho hb
  clear ho hb
  go_wp2_with fail
  refine (eqByteS_any _ _ L _ (H.slB 5 (.head _)) (H.slB 5 (.tail _ (.tail _ (.head _))))).mono ?_
  rintro e _ ⟨rfl, d5, rfl⟩
  replace H := H.drewN d5
  go_wp2_with fail
  refine (toByteSS_any _ l0 _ (hs0.up H.bel) hbl0 hbs0).mono ?_
  rintro e w6 ⟨u6, vs6, rfl, hv, K⟩
  have HVu6 := Lib.hid hv
  replace H := H.more (s := segS 22 5 u6 vs6 l0) K
  clear hv K
  go_wp2_with fail
  refine (eqByteSS_any _ _ l0 _ (H.slS 22 5 HVu3.out (.tail _ (.tail _ (.head _)))) (H.slS 22 5 HVu6.out (.head _))).mono ?_
  rintro e _ ⟨rfl, d7, rfl⟩
  replace H := H.drewN d7
  replace H := H.sub (qs := [segB 5 u4 L, segS 22 5 u3 vs3 l0, segB 5 u2 L]) (.cons _ (.cons_cons _ (.cons_cons _ (.cons_cons _ .slnil))))
  replace H : InvF W _ [segS 22 5 u3 vs3 l0, segB 5 u4 L, segB 5 u2 L] := H.front 1 rfl
  go_wp2_with fail
  refine (markByteSS_z W _ _ _ l0 _ (1) _ HVu3.out H rfl (by omega) (by omega)).mono ?_
  rintro e w8 ⟨rfl, K⟩
  replace H := K
  clear K
  replace HVu3 : Hid (vs3.length = (marksS (1) l0).length) := Lib.hid (HVu3.out.trans (marksS_length _ _).symm)
  have hlt0 : ¬ ((1 : Int) + (sumL l0 : Int) < 0) := by omega
  go_wp2_with fail
  refine (eqByteS_any _ _ L _ (H.slB 5 (.tail _ (.head _))) (H.slB 5 (.tail _ (.tail _ (.head _))))).mono ?_
  rintro e _ ⟨rfl, d9, rfl⟩
  replace H := H.drewN d9
  replace H := H.sub (qs := [segB 5 u4 L, segB 5 u2 L]) (.cons _ (.cons_cons _ (.cons_cons _ .slnil)))
  go_wp2_with fail
  refine (markByteS_z _ L (1) _ _ _ (H.ownB 5 (.head _)) rfl (by omega) (by omega)).mono ?_
  rintro e w10 ⟨rfl, ho, hg⟩
  replace H := H.wroteB ho hg
  clear ho hg
  go_wp2_with fail
  refine (heldByteS_z _ 1 L.length _ _ (H.slB 5 (.head _)) rfl (by omega) (by omega)).mono ?_
  rintro e _ ⟨rfl, d11, rfl⟩
  replace H := H.drewN d11
  have hltL : ¬ ((1 : Int) + (L.length : Int) < 0) := by omega
  have hneL : ((1 : Int) + (L.length : Int) != 1 + (L.length : Int)) = false := by simp
  go_wp2_with fail
  refine (toByteSS_any _ l0 _ (hs0.up H.bel) hbl0 hbs0).mono ?_
  rintro e w12 ⟨u12, vs12, rfl, hv, K⟩
  have HVu12 := Lib.hid hv
  replace H := H.more (s := segS 22 5 u12 vs12 l0) K
  clear hv K
  go_wp2_with fail
  refine (implTreeRoot_any _ l0 _ (H.slS 22 5 HVu12.out (.head _)) (by omega) (by omega) (hgI.up H.bel) (hg.up H.bel)).mono ?_
  rw [← HL.out]
  rintro e w13 ⟨u13, rfl, ho, hb⟩
  replace H := H.moreB ho hb
  clear ho hb
  go_wp2_with fail
  refine (eqByteS_any _ _ L _ (H.slB 5 (.head _)) (H.slB 5 (.tail _ (.tail _ (.tail _ (.head _)))))).mono ?_
  rintro e _ ⟨rfl, d14, rfl⟩
  replace H := H.drewN d14
  go_wp2_with fail
  refine (heldByteS_z _ 1 L.length _ _ (H.slB 5 (.tail _ (.tail _ (.head _)))) rfl (by omega) (by omega)).mono ?_
  rintro e _ ⟨rfl, d15, rfl⟩
  replace H := H.drewN d15
  go_wp2_with fail
  go_ret
  exact ⟨rfl, by have hfin := H.bel; simpa using hfin⟩
end Go.Proofs.YtpnfdngacipfgaaDoor
