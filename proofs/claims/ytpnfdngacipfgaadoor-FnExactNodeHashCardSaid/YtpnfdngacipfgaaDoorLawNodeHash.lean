/- The walk of the exact law of NodeHash: for every argument the law answers true and leaves all memory that was there as it was. -/
import Derived.Test.YtpnfdngacipfgaaDoorTree
namespace Go.Proofs.YtpnfdngacipfgaaDoor
open Go.ChangeShapes Go.WideShapes Go.ChangeAt Go.RowKit

set_option maxRecDepth 100000 in
set_option maxHeartbeats 2000000 in
theorem NodeHash_walk (v0 : Value) (l0 : List UInt8) (v1 : Value) (l1 : List UInt8) (W : World) (h0 : Sl W W.heap.size v0 l0) (h1 : Sl W W.heap.size v1 l1) (hgI : Glob W 0 initW) (hg : Glob W 1 kk) :
    Calls Tryd.prog 5 #[v0, v1] W (Yes W) := by
  have hs0 := h0
  obtain ⟨A0, c0, rfl, p0, q0, r0, z0⟩ := h0
  unfold maxLen at q0
  clear r0 z0
  have hs1 := h1
  obtain ⟨A1, c1, rfl, p1, q1, r1, z1⟩ := h1
  unfold maxLen at q1
  clear r1 z1
  by_cases hbig0 : 1048576 < l0.length
  · have hb : (1048576 : Int) < (l0.length : Int) := by omega
    go_enter Tryd.func5, Tryd.ntmps5
    go_wp2
    go_ret
    exact ⟨rfl, Below.refl _ _⟩
  have hb0 : ¬ ((1048576 : Int) < (l0.length : Int)) := by omega
  by_cases hbig1 : 1048576 < l1.length
  · have hb : (1048576 : Int) < (l1.length : Int) := by omega
    go_enter Tryd.func5, Tryd.ntmps5
    go_wp2
    go_ret
    exact ⟨rfl, Below.refl _ _⟩
  have hb1 : ¬ ((1048576 : Int) < (l1.length : Int)) := by omega
  have hp : (nodeL l0 l1).length ≤ 1073741824 := by have := nodeL_length l0 l1; omega
  obtain ⟨L, hL⟩ : ∃ L, L = nodeL l0 l1 := ⟨_, rfl⟩
  rw [← hL] at hp
  have HL := Lib.hid hL
  clear hL
  have H : InvG W W [] := InvG.start W
  go_enter Tryd.func5, Tryd.ntmps5
  go_wp2_with fail
  refine (toByteS_any _ l0 _ (H.old hs0) (by omega)).mono ?_
  rintro e w1 ⟨u1, rfl, ho, hb⟩
  replace H := H.more ho hb
  clear ho hb
  go_wp2_with fail
  refine (toByteS_any _ l1 _ (H.old hs1) (by omega)).mono ?_
  rintro e w2 ⟨u2, rfl, ho, hb⟩
  replace H := H.more ho hb
  clear ho hb
  go_wp2_with fail
  refine (specNodeHash_any _ _ l0 l1 _ (H.sl 5 (by simp)) (H.sl 5 (by simp)) (by omega) (by omega) ).mono ?_
  rw [← HL.out]
  rintro e w3 ⟨u3, rfl, ho, hb⟩
  replace H := H.more ho hb
  clear ho hb
  replace H := H.sub (qs := [(5, u3, us L)]) (by simp)
  go_wp2_with fail
  refine (toByteS_any _ l0 _ (H.old hs0) (by omega)).mono ?_
  rintro e w4 ⟨u4, rfl, ho, hb⟩
  replace H := H.more ho hb
  clear ho hb
  go_wp2_with fail
  refine (toByteS_any _ l1 _ (H.old hs1) (by omega)).mono ?_
  rintro e w5 ⟨u5, rfl, ho, hb⟩
  replace H := H.more ho hb
  clear ho hb
  go_wp2_with fail
  refine (implNodeHash_any _ _ l0 l1 _ (H.sl 5 (by simp)) (H.sl 5 (by simp)) (by omega) (by omega) (hgI.up H.bel) (hg.up H.bel)).mono ?_
  rw [← HL.out]
  rintro e w6 ⟨u6, rfl, ho, hb⟩
  replace H := H.more ho hb
  clear ho hb
  go_wp2_with fail
  refine (eqByteS_any _ _ L _ (H.sl 5 (by simp)) (H.sl 5 (by simp))).mono ?_
  rintro e _ ⟨rfl, d7, rfl⟩
  replace H := H.drewN d7
  go_wp2_with fail
  refine (toByteS_any _ l0 _ (H.old hs0) (by omega)).mono ?_
  rintro e w8 ⟨u8, rfl, ho, hb⟩
  replace H := H.more ho hb
  clear ho hb
  go_wp2_with fail
  refine (eqByteS_any _ _ l0 _ (H.sl 5 (by simp)) (H.sl 5 (by simp))).mono ?_
  rintro e _ ⟨rfl, d9, rfl⟩
  replace H := H.drewN d9
  replace H := H.sub (qs := [(5, u6, us L), (5, u5, us l1), (5, u4, us l0), (5, u3, us L)]) (by simp)
  go_wp2_with fail
  refine (toByteS_any _ l1 _ (H.old hs1) (by omega)).mono ?_
  rintro e w10 ⟨u10, rfl, ho, hb⟩
  replace H := H.more ho hb
  clear ho hb
  go_wp2_with fail
  refine (eqByteS_any _ _ l1 _ (H.sl 5 (by simp)) (H.sl 5 (by simp))).mono ?_
  rintro e _ ⟨rfl, d11, rfl⟩
  replace H := H.drewN d11
  replace H := H.sub (qs := [(5, u6, us L), (5, u5, us l1), (5, u4, us l0), (5, u3, us L)]) (by simp)
  go_wp2_with fail
  refine (markByteS_z _ l0 (1) _ _ _ (H.own 5 (by simp)) rfl (by omega) (by omega)).mono ?_
  rintro e w12 ⟨rfl, ho, hg⟩
  replace H := H.wroteAt 2 rfl ho hg
  simp only [List.set_cons_succ, List.set_cons_zero] at H
  clear ho hg
  have hlt0 : ¬ ((1 : Int) + (l0.length : Int) < 0) := by omega
  go_wp2_with fail
  refine (markByteS_z _ l1 (1 + l0.length) _ _ _ (H.own 5 (by simp)) (by simp) (by omega) (by omega)).mono ?_
  rintro e w13 ⟨rfl, ho, hg⟩
  replace H := H.wroteAt 1 rfl ho hg
  simp only [List.set_cons_succ, List.set_cons_zero] at H
  clear ho hg
  have hlt1 : ¬ ((1 : Int) + (l0.length : Int) + (l1.length : Int) < 0) := by omega
  go_wp2_with fail
  refine (eqByteS_any _ _ L _ (H.sl 5 (by simp)) (H.sl 5 (by simp))).mono ?_
  rintro e _ ⟨rfl, d14, rfl⟩
  replace H := H.drewN d14
  replace H := H.sub (qs := [(5, u6, us L), (5, u3, us L)]) (by simp)
  go_wp2_with fail
  refine (markByteS_z _ L (1) _ _ _ (H.own 5 (by simp)) rfl (by omega) (by omega)).mono ?_
  rintro e w15 ⟨rfl, ho, hg⟩
  replace H := H.wroteAt 0 rfl ho hg
  simp only [List.set_cons_zero] at H
  clear ho hg
  go_wp2_with fail
  refine (heldByteS_z _ 1 L.length _ _ (H.sl 5 (by simp)) rfl (by omega) (by omega)).mono ?_
  rintro e _ ⟨rfl, d16, rfl⟩
  replace H := H.drewN d16
  have hltL : ¬ ((1 : Int) + (L.length : Int) < 0) := by omega
  have hneL : ((1 : Int) + (L.length : Int) != 1 + (L.length : Int)) = false := by simp
  go_wp2_with fail
  refine (toByteS_any _ l0 _ (H.old hs0) (by omega)).mono ?_
  rintro e w17 ⟨u17, rfl, ho, hb⟩
  replace H := H.more ho hb
  clear ho hb
  go_wp2_with fail
  refine (toByteS_any _ l1 _ (H.old hs1) (by omega)).mono ?_
  rintro e w18 ⟨u18, rfl, ho, hb⟩
  replace H := H.more ho hb
  clear ho hb
  go_wp2_with fail
  refine (implNodeHash_any _ _ l0 l1 _ (H.sl 5 (by simp)) (H.sl 5 (by simp)) (by omega) (by omega) (hgI.up H.bel) (hg.up H.bel)).mono ?_
  rw [← HL.out]
  rintro e w19 ⟨u19, rfl, ho, hb⟩
  replace H := H.more ho hb
  clear ho hb
  go_wp2_with fail
  refine (eqByteS_any _ _ L _ (H.sl 5 (by simp)) (H.sl 5 (by simp))).mono ?_
  rintro e _ ⟨rfl, d20, rfl⟩
  replace H := H.drewN d20
  go_wp2_with fail
  refine (heldByteS_z _ 1 L.length _ _ (H.sl 5 (by simp)) rfl (by omega) (by omega)).mono ?_
  rintro e _ ⟨rfl, d21, rfl⟩
  replace H := H.drewN d21
  go_wp2_with fail
  go_ret
  exact ⟨rfl, by have hfin := H.bel; simpa using hfin⟩
end Go.Proofs.YtpnfdngacipfgaaDoor
