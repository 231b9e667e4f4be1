/- The walk of the exact law of PutProof: for every argument the law answers true and leaves all memory that was there as it was. -/
import Derived.Test.YtopbalemfljphaaProof
import Derived.Test.YtopbalemfljphaaPutProofS
import Derived.Test.YtopbalemfljphaaPutProof
import Derived.Deep.RegionHeld3
namespace Go.Proofs.Ytopbalemfljphaa
open Go.ChangeShapes Go.WideShapes Go.ChangeAt Go.RowKit

set_option maxRecDepth 100000 in
set_option maxHeartbeats 8000000 in
theorem PutProof_walk (x0_0 x0_1 x0_2 x0_3 x0_4 : Int) (v1 : Value) (l1 : List UInt8) (x2_1 x2_2 : Int) (v2_0 v2_3 v2_4 v2_5 : Value) (l2_0 : List Ht) (l2_3 : List UInt8) (l2_4 : List UInt8) (l2_5 : List (List UInt8)) (W : World) (h1 : Sl W W.heap.size v1 l1) (h2_0 : SlH W W.heap.size v2_0 l2_0) (h2_3 : Sl W W.heap.size v2_3 l2_3) (h2_4 : Sl W W.heap.size v2_4 l2_4) (h2_5 : SlS W W.heap.size v2_5 l2_5)  :
    Calls Try.prog 5 #[.agg #[.int .i64 x0_0, .int .i64 x0_1, .int .i64 x0_2, .int .i64 x0_3, .int .i64 x0_4], v1, .agg #[v2_0, .int .i64 x2_1, .int .i64 x2_2, v2_3, v2_4, v2_5]] W (Yes W) := by
  have hs1 := h1
  obtain ⟨A1, c1, rfl, p1, q1, r1, z1⟩ := h1
  unfold maxLen at q1
  clear r1 z1
  have hs2_0 := h2_0
  obtain ⟨A2_0, c2_0, rfl, p2_0, q2_0, r2_0, z2_0⟩ := h2_0
  unfold maxLen at q2_0
  clear r2_0 z2_0
  have hs2_3 := h2_3
  obtain ⟨A2_3, c2_3, rfl, p2_3, q2_3, r2_3, z2_3⟩ := h2_3
  unfold maxLen at q2_3
  clear r2_3 z2_3
  have hs2_4 := h2_4
  obtain ⟨A2_4, c2_4, rfl, p2_4, q2_4, r2_4, z2_4⟩ := h2_4
  unfold maxLen at q2_4
  clear r2_4 z2_4
  have hs2_5 := h2_5
  obtain ⟨A2_5, c2_5, rfl, p2_5, q2_5, r2_5, z2_5⟩ := h2_5
  unfold maxLen at q2_5
  clear r2_5 z2_5
  by_cases hbig1 : 1048576 < l1.length
  · have hb : (1048576 : Int) < (l1.length : Int) := by omega
    go_enter Try.func5, Try.ntmps5
    go_wp2
    go_ret
    exact ⟨rfl, (((Below.refl _ _).alloc (by simp <;> omega) _).alloc (by simp <;> omega) _)⟩
  have hb1 : ¬ ((1048576 : Int) < (l1.length : Int)) := by omega
  by_cases hbig : (1048576 : Int) < (l2_0.length : Int) + (volH l2_0 : Int) + (l2_3.length : Int) + (l2_4.length : Int) + (l2_5.length : Int) + (sumL l2_5 : Int)
  · have HZ0 : Hid (szPZ l2_0 l2_3 l2_4 l2_5 (1048576 : Int) = -1) := Lib.hid (by exact szPZ_big hbig)
    clear hbig
    have H : InvF W W [] := InvF.start W
    replace H := H.newG 23 #[.int .i64 x0_0, .int .i64 x0_1, .int .i64 x0_2, .int .i64 x0_3, .int .i64 x0_4] (W.heap.size)
    replace H := H.newG 30 #[.slice A2_0 l2_0.length c2_0, .int .i64 x2_1, .int .i64 x2_2, .slice A2_3 l2_3.length c2_3, .slice A2_4 l2_4.length c2_4, .slice A2_5 l2_5.length c2_5] (W.heap.size + 1)
    replace H : InvF W _ [segX 30 (W.heap.size + 1) [(.slice A2_0 l2_0.length c2_0), .int .i64 x2_1, .int .i64 x2_2, (.slice A2_3 l2_3.length c2_3), (.slice A2_4 l2_4.length c2_4), (.slice A2_5 l2_5.length c2_5)], segX 23 W.heap.size [.int .i64 x0_0, .int .i64 x0_1, .int .i64 x0_2, .int .i64 x0_3, .int .i64 x0_4]] := H
    go_enter Try.func5, Try.ntmps5
    obtain ⟨b1_0, b1_1, b1_2, b1_3, b1_4, b1_5⟩ := H.c6 (.head _)
    obtain ⟨b2_0, b2_1, b2_2, b2_3, b2_4⟩ := H.c5 (.tail _ (.head _))
    go_wp2_with fail
    refine (szProof_any x2_1 x2_2 _ _ _ _ l2_0 l2_3 l2_4 l2_5 1048576 _ (hs2_0.up H.bel) (hs2_3.up H.bel) (hs2_4.up H.bel) (hs2_5.up H.bel) (by omega) (by omega)).mono ?_
    rw [HZ0.out]
    rintro e wz0 ⟨rfl, hb⟩
    replace H := H.up hb
    clear hb
    clear b1_0 b1_1 b1_2 b1_3 b1_4 b1_5 b2_0 b2_1 b2_2 b2_3 b2_4
    obtain ⟨b3_0, b3_1, b3_2, b3_3, b3_4, b3_5⟩ := H.c6 (.head _)
    obtain ⟨b4_0, b4_1, b4_2, b4_3, b4_4⟩ := H.c5 (.tail _ (.head _))
    go_wp2
    go_ret
    exact ⟨rfl, H.bel⟩
  obtain ⟨zz0, hz⟩ : ∃ z, z = (1048576 : Int) - ((l2_0.length : Int) + (volH l2_0 : Int) + (l2_3.length : Int) + (l2_4.length : Int) + (l2_5.length : Int) + (sumL l2_5 : Int)) := ⟨_, rfl⟩
  have HZ0 : Hid (szPZ l2_0 l2_3 l2_4 l2_5 (1048576 : Int) = zz0) := Lib.hid (by rw [hz]; exact szPZ_ok hbig)
  have hzlo0 : 0 ≤ zz0 := by omega
  have hzhi0 : zz0 ≤ 1048576 := by omega
  have hzn0 : ¬ (zz0 < 0) := by omega
  have hL2_0 : l2_0.length ≤ 1048576 := by omega
  have hN2_0 : volH l2_0 ≤ 1048576 := by omega
  have hM2_0 : mkH l2_0 ≤ 8388608 := by have := mkH_vol l2_0; omega
  have hL2_3 : l2_3.length ≤ 1048576 := by omega
  have hL2_4 : l2_4.length ≤ 1048576 := by omega
  have hL2_5 : l2_5.length ≤ 1048576 := by omega
  have hN2_5 : sumL l2_5 ≤ 1048576 := by omega
  have hT2 : l2_0.length + volH l2_0 + l2_3.length + l2_4.length + l2_5.length + sumL l2_5 ≤ 1048576 := by omega
  clear hbig hz
  have hp : (putProofL x0_0 x0_1 x0_2 x0_3 x0_4 l1 l2_0 x2_1 x2_2 l2_3 l2_4 l2_5).length ≤ 4194304 := by have := putProofL_len x0_0 x0_1 x0_2 x0_3 x0_4 l1 l2_0 x2_1 x2_2 l2_3 l2_4 l2_5; omega
  obtain ⟨R, hR⟩ : ∃ R, R = putProofL x0_0 x0_1 x0_2 x0_3 x0_4 l1 l2_0 x2_1 x2_2 l2_3 l2_4 l2_5 := ⟨_, rfl⟩
  rw [← hR] at hp
  have HR := Lib.hid hR
  clear hR
  obtain ⟨b0, hB⟩ : ∃ b, b = proofB x0_0 x0_1 x0_2 x0_3 x0_4 l2_0 x2_1 x2_2 l2_3 l2_4 l2_5 := ⟨_, rfl⟩
  have HB0 := Lib.hid hB
  clear hB
  have hbb0 : (b0 != b0) = false := by simp
  have H : InvF W W [] := InvF.start W
  replace H := H.newG 23 #[.int .i64 x0_0, .int .i64 x0_1, .int .i64 x0_2, .int .i64 x0_3, .int .i64 x0_4] (W.heap.size)
  replace H := H.newG 30 #[.slice A2_0 l2_0.length c2_0, .int .i64 x2_1, .int .i64 x2_2, .slice A2_3 l2_3.length c2_3, .slice A2_4 l2_4.length c2_4, .slice A2_5 l2_5.length c2_5] (W.heap.size + 1)
  replace H : InvF W _ [segX 30 (W.heap.size + 1) [(.slice A2_0 l2_0.length c2_0), .int .i64 x2_1, .int .i64 x2_2, (.slice A2_3 l2_3.length c2_3), (.slice A2_4 l2_4.length c2_4), (.slice A2_5 l2_5.length c2_5)], segX 23 W.heap.size [.int .i64 x0_0, .int .i64 x0_1, .int .i64 x0_2, .int .i64 x0_3, .int .i64 x0_4]] := H
  go_enter Try.func5, Try.ntmps5
  obtain ⟨b5_0, b5_1, b5_2, b5_3, b5_4, b5_5⟩ := H.c6 (.head _)
  obtain ⟨b6_0, b6_1, b6_2, b6_3, b6_4⟩ := H.c5 (.tail _ (.head _))
  go_wp2_with fail
  refine (szProof_any x2_1 x2_2 _ _ _ _ l2_0 l2_3 l2_4 l2_5 1048576 _ (hs2_0.up H.bel) (hs2_3.up H.bel) (hs2_4.up H.bel) (hs2_5.up H.bel) (by omega) (by omega)).mono ?_
  rw [HZ0.out]
  rintro e wz0 ⟨rfl, hb⟩
  replace H := H.up hb
  clear hb
  clear b5_0 b5_1 b5_2 b5_3 b5_4 b5_5 b6_0 b6_1 b6_2 b6_3 b6_4
  obtain ⟨b7_0, b7_1, b7_2, b7_3, b7_4, b7_5⟩ := H.c6 (.head _)
  obtain ⟨b8_0, b8_1, b8_2, b8_3, b8_4⟩ := H.c5 (.tail _ (.head _))
  have HE0 := Lib.hid (H.drewN 1)
  have HK0 := Lib.hid (ten (HE0.out.c5 (.tail _ (.head _))) (HE0.out.c6 (.head _)))
  go_wp2_with fail
  go_region_held3 (fun w' => w'.cell? ⟨W.heap.size, 0, none⟩ = some (.int .i64 x0_0) ∧ w'.cell? ⟨W.heap.size, 1, none⟩ = some (.int .i64 x0_1) ∧ w'.cell? ⟨W.heap.size, 2, none⟩ = some (.int .i64 x0_2) ∧ w'.cell? ⟨W.heap.size, 3, none⟩ = some (.int .i64 x0_3) ∧ w'.cell? ⟨W.heap.size, 4, none⟩ = some (.int .i64 x0_4) ∧ w'.cell? ⟨W.heap.size + 1, 0, none⟩ = some (.slice A2_0 l2_0.length c2_0) ∧ w'.cell? ⟨W.heap.size + 1, 1, none⟩ = some (.int .i64 x2_1) ∧ w'.cell? ⟨W.heap.size + 1, 2, none⟩ = some (.int .i64 x2_2) ∧ w'.cell? ⟨W.heap.size + 1, 3, none⟩ = some (.slice A2_3 l2_3.length c2_3) ∧ w'.cell? ⟨W.heap.size + 1, 4, none⟩ = some (.slice A2_4 l2_4.length c2_4) ∧ w'.cell? ⟨W.heap.size + 1, 5, none⟩ = some (.slice A2_5 l2_5.length c2_5))
    (first
      | exact HK0.out
      | exact HK1.out
      | exact HK2.out
      | exact HK3.out
      | exact HK4.out)
    (first
      | (go_at_call_of 11 (Value.int IntKind.i64 x0_0); refine (toLimits_any x0_0 x0_1 x0_2 x0_3 x0_4   _  ).mono ?_; rintro e w1 ⟨rfl, hb⟩; have HX := HE0.out.up hb; clear hb; have HE1 := Lib.hid HX; clear HX; have HK1 := Lib.hid (ten (HE1.out.c5 (.tail _ (.head _))) (HE1.out.c6 (.head _))))
      | (go_at_call 18; refine (toByteS_any _ l1 _ (hs1.up HE1.out.bel) (by omega)).mono ?_; rintro e w2 ⟨u2, rfl, ho, hb⟩; have HX := HE1.out.moreB ho hb; clear ho hb; have HE2 := Lib.hid HX; clear HX; have HK2 := Lib.hid (ten (HE2.out.c5 (.tail _ (.tail _ (.head _)))) (HE2.out.c6 (.tail _ (.head _)))))
      | (go_at_call_of 12 (Value.int IntKind.i64 x2_1); refine (toProof_any x2_1 x2_2 _ _ _ _ l2_0 l2_3 l2_4 l2_5 _ (hs2_0.up HE2.out.bel) (hs2_3.up HE2.out.bel) (hs2_4.up HE2.out.bel) (hs2_5.up HE2.out.bel) hL2_0 hN2_0 hL2_3 hL2_4 hL2_5 hN2_5).mono ?_; rintro e w3 ⟨u3_0, u3_3, u3_4, u3_5, vs3_0, vs3_5, rfl, hv3_0, hv3_5, K⟩; have HV3_0 := Lib.hid hv3_0; have HV3_5 := Lib.hid hv3_5; obtain ⟨A3_0', c3_0', rfl⟩ := K.openH hv3_0 (.head _); clear hv3_0; obtain ⟨A3_3', c3_3', rfl⟩ := K.openB' (.tail _ (.head _)); obtain ⟨A3_4', c3_4', rfl⟩ := K.openB' (.tail _ (.tail _ (.head _))); obtain ⟨A3_5', c3_5', rfl⟩ := K.openS hv3_5 (.tail _ (.tail _ (.tail _ (.head _)))); clear hv3_5; have HT := HE2.out.moreF K; clear K; have HX : InvF W w3 [segH (.slice A3_0' l2_0.length c3_0') vs3_0 l2_0, segB 5 (.slice A3_3' l2_3.length c3_3') l2_3, segB 5 (.slice A3_4' l2_4.length c3_4') l2_4, segS 25 5 (.slice A3_5' l2_5.length c3_5') vs3_5 l2_5, segB 5 u2 l1, segX 30 (W.heap.size + 1) [(.slice A2_0 l2_0.length c2_0), .int .i64 x2_1, .int .i64 x2_2, (.slice A2_3 l2_3.length c2_3), (.slice A2_4 l2_4.length c2_4), (.slice A2_5 l2_5.length c2_5)], segX 23 W.heap.size [.int .i64 x0_0, .int .i64 x0_1, .int .i64 x0_2, .int .i64 x0_3, .int .i64 x0_4]] := HT; clear HT; have HE3 := Lib.hid HX; clear HX; have HK3 := Lib.hid (ten (HE3.out.c5 (.tail _ (.tail _ (.tail _ (.tail _ (.tail _ (.tail _ (.head _)))))))) (HE3.out.c6 (.tail _ (.tail _ (.tail _ (.tail _ (.tail _ (.head _)))))))))
      | (go_at_call 17; refine (specPutProof_any x0_0 x0_1 x0_2 x0_3 x0_4 x2_1 x2_2 _ _ _ _ _ l1 l2_0 l2_3 l2_4 l2_5 _  (HE3.out.slB 5 (.tail _ (.tail _ (.tail _ (.tail _ (.head _)))))) (HE3.out.slH HV3_0.out (.head _)) (HE3.out.slB 5 (.tail _ (.head _))) (HE3.out.slB 5 (.tail _ (.tail _ (.head _)))) (HE3.out.slS 25 5 HV3_5.out (.tail _ (.tail _ (.tail _ (.head _))))) (by omega) (by omega) (by omega) (by omega) (by omega) ).mono ?_; rw [← HR.out, ← HB0.out]; rintro e w4 ⟨u4, rfl, ho, hb⟩; have HX := HE3.out.moreB ho hb; clear ho hb; have HE4 := Lib.hid HX; clear HX; have HK4 := Lib.hid (ten (HE4.out.c5 (.tail _ (.tail _ (.tail _ (.tail _ (.tail _ (.tail _ (.tail _ (.head _))))))))) (HE4.out.c6 (.tail _ (.tail _ (.tail _ (.tail _ (.tail _ (.tail _ (.head _)))))))))))
  clear H b7_0 b7_1 b7_2 b7_3 b7_4 b7_5 b8_0 b8_1 b8_2 b8_3 b8_4
  have H := HE4.out
  clear HE0 HK0 HE1 HK1 HE2 HK2 HE3 HK3 HE4 HK4
  replace H := H.sub (qs := [segB 5 u4 R, segX 30 (W.heap.size + 1) [(.slice A2_0 l2_0.length c2_0), .int .i64 x2_1, .int .i64 x2_2, (.slice A2_3 l2_3.length c2_3), (.slice A2_4 l2_4.length c2_4), (.slice A2_5 l2_5.length c2_5)], segX 23 W.heap.size [.int .i64 x0_0, .int .i64 x0_1, .int .i64 x0_2, .int .i64 x0_3, .int .i64 x0_4]]) (.cons_cons _ (.cons _ (.cons _ (.cons _ (.cons _ (.cons _ (.cons_cons _ (.cons_cons _ .slnil))))))))
  obtain ⟨b9_0, b9_1, b9_2, b9_3, b9_4, b9_5⟩ := H.c6 (.tail _ (.head _))
  obtain ⟨b10_0, b10_1, b10_2, b10_3, b10_4⟩ := H.c5 (.tail _ (.tail _ (.head _)))
  go_wp2_with fail
  refine (toByteS_any _ l1 _ (hs1.up H.bel) (by omega)).mono ?_
  rintro e w5 ⟨u5, rfl, ho, hb⟩
  replace H := H.moreB ho hb
  clear ho hb
  clear b9_0 b9_1 b9_2 b9_3 b9_4 b9_5 b10_0 b10_1 b10_2 b10_3 b10_4
  obtain ⟨b11_0, b11_1, b11_2, b11_3, b11_4, b11_5⟩ := H.c6 (.tail _ (.tail _ (.head _)))
  obtain ⟨b12_0, b12_1, b12_2, b12_3, b12_4⟩ := H.c5 (.tail _ (.tail _ (.tail _ (.head _))))
  go_wp2_with fail
  refine (toProof_any x2_1 x2_2 _ _ _ _ l2_0 l2_3 l2_4 l2_5 _ (hs2_0.up H.bel) (hs2_3.up H.bel) (hs2_4.up H.bel) (hs2_5.up H.bel) hL2_0 hN2_0 hL2_3 hL2_4 hL2_5 hN2_5).mono ?_
  rintro e w6 ⟨u6_0, u6_3, u6_4, u6_5, vs6_0, vs6_5, rfl, hv6_0, hv6_5, K⟩
  have HV6_0 := Lib.hid hv6_0
  have HV6_5 := Lib.hid hv6_5
  obtain ⟨A6_0', c6_0', rfl⟩ := K.openH hv6_0 (.head _)
  clear hv6_0
  obtain ⟨A6_3', c6_3', rfl⟩ := K.openB' (.tail _ (.head _))
  obtain ⟨A6_4', c6_4', rfl⟩ := K.openB' (.tail _ (.tail _ (.head _)))
  obtain ⟨A6_5', c6_5', rfl⟩ := K.openS hv6_5 (.tail _ (.tail _ (.tail _ (.head _))))
  clear hv6_5
  have HT := H.moreF K
  clear K
  replace H : InvF W w6 [segH (.slice A6_0' l2_0.length c6_0') vs6_0 l2_0, segB 5 (.slice A6_3' l2_3.length c6_3') l2_3, segB 5 (.slice A6_4' l2_4.length c6_4') l2_4, segS 25 5 (.slice A6_5' l2_5.length c6_5') vs6_5 l2_5, segB 5 u5 l1, segB 5 u4 R, segX 30 (W.heap.size + 1) [(.slice A2_0 l2_0.length c2_0), .int .i64 x2_1, .int .i64 x2_2, (.slice A2_3 l2_3.length c2_3), (.slice A2_4 l2_4.length c2_4), (.slice A2_5 l2_5.length c2_5)], segX 23 W.heap.size [.int .i64 x0_0, .int .i64 x0_1, .int .i64 x0_2, .int .i64 x0_3, .int .i64 x0_4]] := HT
  clear HT
  replace H := H.newX 38 #[(.slice A6_0' l2_0.length c6_0'), .int .i64 x2_1, .int .i64 x2_2, (.slice A6_3' l2_3.length c6_3'), (.slice A6_4' l2_4.length c6_4'), (.slice A6_5' l2_5.length c6_5')]
  replace H : InvF W _ [segX 38 w6.heap.size [(.slice A6_0' l2_0.length c6_0'), .int .i64 x2_1, .int .i64 x2_2, (.slice A6_3' l2_3.length c6_3'), (.slice A6_4' l2_4.length c6_4'), (.slice A6_5' l2_5.length c6_5')], segH (.slice A6_0' l2_0.length c6_0') vs6_0 l2_0, segB 5 (.slice A6_3' l2_3.length c6_3') l2_3, segB 5 (.slice A6_4' l2_4.length c6_4') l2_4, segS 25 5 (.slice A6_5' l2_5.length c6_5') vs6_5 l2_5, segB 5 u5 l1, segB 5 u4 R, segX 30 (W.heap.size + 1) [(.slice A2_0 l2_0.length c2_0), .int .i64 x2_1, .int .i64 x2_2, (.slice A2_3 l2_3.length c2_3), (.slice A2_4 l2_4.length c2_4), (.slice A2_5 l2_5.length c2_5)], segX 23 W.heap.size [.int .i64 x0_0, .int .i64 x0_1, .int .i64 x0_2, .int .i64 x0_3, .int .i64 x0_4]] := H
  clear b11_0 b11_1 b11_2 b11_3 b11_4 b11_5 b12_0 b12_1 b12_2 b12_3 b12_4
  obtain ⟨b13_0, b13_1, b13_2, b13_3, b13_4, b13_5⟩ := H.c6 (.head _)
  obtain ⟨b14_0, b14_1, b14_2, b14_3, b14_4, b14_5⟩ := H.c6 (.tail _ (.tail _ (.tail _ (.tail _ (.tail _ (.tail _ (.tail _ (.head _))))))))
  obtain ⟨b15_0, b15_1, b15_2, b15_3, b15_4⟩ := H.c5 (.tail _ (.tail _ (.tail _ (.tail _ (.tail _ (.tail _ (.tail _ (.tail _ (.head _)))))))))
  have HE0 := Lib.hid (H.drewN 1)
  have HK0 := Lib.hid (ten (HE0.out.c5 (.tail _ (.tail _ (.tail _ (.tail _ (.tail _ (.tail _ (.tail _ (.tail _ (.head _)))))))))) (HE0.out.c6 (.head _)))
  go_wp2_with fail
  go_region_held3 (fun w' => w'.cell? ⟨W.heap.size, 0, none⟩ = some (.int .i64 x0_0) ∧ w'.cell? ⟨W.heap.size, 1, none⟩ = some (.int .i64 x0_1) ∧ w'.cell? ⟨W.heap.size, 2, none⟩ = some (.int .i64 x0_2) ∧ w'.cell? ⟨W.heap.size, 3, none⟩ = some (.int .i64 x0_3) ∧ w'.cell? ⟨W.heap.size, 4, none⟩ = some (.int .i64 x0_4) ∧ w'.cell? ⟨w6.heap.size, 0, none⟩ = some (.slice A6_0' l2_0.length c6_0') ∧ w'.cell? ⟨w6.heap.size, 1, none⟩ = some (.int .i64 x2_1) ∧ w'.cell? ⟨w6.heap.size, 2, none⟩ = some (.int .i64 x2_2) ∧ w'.cell? ⟨w6.heap.size, 3, none⟩ = some (.slice A6_3' l2_3.length c6_3') ∧ w'.cell? ⟨w6.heap.size, 4, none⟩ = some (.slice A6_4' l2_4.length c6_4') ∧ w'.cell? ⟨w6.heap.size, 5, none⟩ = some (.slice A6_5' l2_5.length c6_5'))
    (first
      | exact HK0.out
      | exact HK1.out
      | exact HK2.out)
    (first
      | (go_at_call_of 11 (Value.int IntKind.i64 x0_0); refine (toLimits_any x0_0 x0_1 x0_2 x0_3 x0_4   _  ).mono ?_; rintro e w7 ⟨rfl, hb⟩; have HX := HE0.out.up hb; clear hb; have HE1 := Lib.hid HX; clear HX; have HK1 := Lib.hid (ten (HE1.out.c5 (.tail _ (.tail _ (.tail _ (.tail _ (.tail _ (.tail _ (.tail _ (.tail _ (.head _)))))))))) (HE1.out.c6 (.head _))))
      | (go_at_call 19; refine (implPutProof_any x0_0 x0_1 x0_2 x0_3 x0_4 x2_1 x2_2 _ _ _ _ _ l1 l2_0 l2_3 l2_4 l2_5 _  (HE1.out.slB 5 (.tail _ (.tail _ (.tail _ (.tail _ (.tail _ (.head _))))))) (HE1.out.slH HV6_0.out (.tail _ (.head _))) (HE1.out.slB 5 (.tail _ (.tail _ (.head _)))) (HE1.out.slB 5 (.tail _ (.tail _ (.tail _ (.head _))))) (HE1.out.slS 25 5 HV6_5.out (.tail _ (.tail _ (.tail _ (.tail _ (.head _)))))) (by omega) (by omega) (by omega) (by omega) (by omega) ).mono ?_; rw [← HR.out, ← HB0.out]; rintro e w8 ⟨u8, rfl, ho, hb⟩; have HX := HE1.out.moreB ho hb; clear ho hb; have HE2 := Lib.hid HX; clear HX; have HK2 := Lib.hid (ten (HE2.out.c5 (.tail _ (.tail _ (.tail _ (.tail _ (.tail _ (.tail _ (.tail _ (.tail _ (.tail _ (.head _))))))))))) (HE2.out.c6 (.tail _ (.head _))))))
  clear H b13_0 b13_1 b13_2 b13_3 b13_4 b13_5 b14_0 b14_1 b14_2 b14_3 b14_4 b14_5 b15_0 b15_1 b15_2 b15_3 b15_4
  have H := HE2.out
  clear HE0 HK0 HE1 HK1 HE2 HK2
  obtain ⟨b16_0, b16_1, b16_2, b16_3, b16_4, b16_5⟩ := H.c6 (.tail _ (.head _))
  obtain ⟨b17_0, b17_1, b17_2, b17_3, b17_4, b17_5⟩ := H.c6 (.tail _ (.tail _ (.tail _ (.tail _ (.tail _ (.tail _ (.tail _ (.tail _ (.head _)))))))))
  obtain ⟨b18_0, b18_1, b18_2, b18_3, b18_4⟩ := H.c5 (.tail _ (.tail _ (.tail _ (.tail _ (.tail _ (.tail _ (.tail _ (.tail _ (.tail _ (.head _))))))))))
  go_wp2_with fail
  refine (eqByteS_any _ _ R _ (H.slB 5 (.head _)) (H.slB 5 (.tail _ (.tail _ (.tail _ (.tail _ (.tail _ (.tail _ (.tail _ (.head _)))))))))).mono ?_
  rintro e _ ⟨rfl, d9, rfl⟩
  replace H := H.drewN d9
  clear b16_0 b16_1 b16_2 b16_3 b16_4 b16_5 b17_0 b17_1 b17_2 b17_3 b17_4 b17_5 b18_0 b18_1 b18_2 b18_3 b18_4
  obtain ⟨b19_0, b19_1, b19_2, b19_3, b19_4, b19_5⟩ := H.c6 (.tail _ (.head _))
  obtain ⟨b20_0, b20_1, b20_2, b20_3, b20_4, b20_5⟩ := H.c6 (.tail _ (.tail _ (.tail _ (.tail _ (.tail _ (.tail _ (.tail _ (.tail _ (.head _)))))))))
  obtain ⟨b21_0, b21_1, b21_2, b21_3, b21_4⟩ := H.c5 (.tail _ (.tail _ (.tail _ (.tail _ (.tail _ (.tail _ (.tail _ (.tail _ (.tail _ (.head _))))))))))
  go_wp2_with fail
  refine (toByteS_any _ l1 _ (hs1.up H.bel) (by omega)).mono ?_
  rintro e w10 ⟨u10, rfl, ho, hb⟩
  replace H := H.moreB ho hb
  clear ho hb
  clear b19_0 b19_1 b19_2 b19_3 b19_4 b19_5 b20_0 b20_1 b20_2 b20_3 b20_4 b20_5 b21_0 b21_1 b21_2 b21_3 b21_4
  obtain ⟨b22_0, b22_1, b22_2, b22_3, b22_4, b22_5⟩ := H.c6 (.tail _ (.tail _ (.head _)))
  obtain ⟨b23_0, b23_1, b23_2, b23_3, b23_4, b23_5⟩ := H.c6 (.tail _ (.tail _ (.tail _ (.tail _ (.tail _ (.tail _ (.tail _ (.tail _ (.tail _ (.head _))))))))))
  obtain ⟨b24_0, b24_1, b24_2, b24_3, b24_4⟩ := H.c5 (.tail _ (.tail _ (.tail _ (.tail _ (.tail _ (.tail _ (.tail _ (.tail _ (.tail _ (.tail _ (.head _)))))))))))
  go_wp2_with fail
  refine (eqByteS_any _ _ l1 _ (H.slB 5 (.tail _ (.tail _ (.tail _ (.tail _ (.tail _ (.tail _ (.tail _ (.head _))))))))) (H.slB 5 (.head _))).mono ?_
  rintro e _ ⟨rfl, d11, rfl⟩
  replace H := H.drewN d11
  replace H := H.sub (qs := [segB 5 u8 R, segX 38 w6.heap.size [(.slice A6_0' l2_0.length c6_0'), .int .i64 x2_1, .int .i64 x2_2, (.slice A6_3' l2_3.length c6_3'), (.slice A6_4' l2_4.length c6_4'), (.slice A6_5' l2_5.length c6_5')], segH (.slice A6_0' l2_0.length c6_0') vs6_0 l2_0, segB 5 (.slice A6_3' l2_3.length c6_3') l2_3, segB 5 (.slice A6_4' l2_4.length c6_4') l2_4, segS 25 5 (.slice A6_5' l2_5.length c6_5') vs6_5 l2_5, segB 5 u5 l1, segB 5 u4 R, segX 30 (W.heap.size + 1) [(.slice A2_0 l2_0.length c2_0), .int .i64 x2_1, .int .i64 x2_2, (.slice A2_3 l2_3.length c2_3), (.slice A2_4 l2_4.length c2_4), (.slice A2_5 l2_5.length c2_5)], segX 23 W.heap.size [.int .i64 x0_0, .int .i64 x0_1, .int .i64 x0_2, .int .i64 x0_3, .int .i64 x0_4]]) (.cons _ (.cons_cons _ (.cons_cons _ (.cons_cons _ (.cons_cons _ (.cons_cons _ (.cons_cons _ (.cons_cons _ (.cons_cons _ (.cons_cons _ (.cons_cons _ .slnil)))))))))))
  clear b22_0 b22_1 b22_2 b22_3 b22_4 b22_5 b23_0 b23_1 b23_2 b23_3 b23_4 b23_5 b24_0 b24_1 b24_2 b24_3 b24_4
  obtain ⟨b25_0, b25_1, b25_2, b25_3, b25_4, b25_5⟩ := H.c6 (.tail _ (.head _))
  obtain ⟨b26_0, b26_1, b26_2, b26_3, b26_4, b26_5⟩ := H.c6 (.tail _ (.tail _ (.tail _ (.tail _ (.tail _ (.tail _ (.tail _ (.tail _ (.head _)))))))))
  obtain ⟨b27_0, b27_1, b27_2, b27_3, b27_4⟩ := H.c5 (.tail _ (.tail _ (.tail _ (.tail _ (.tail _ (.tail _ (.tail _ (.tail _ (.tail _ (.head _))))))))))
  have HE0 := Lib.hid (H.drewN 1)
  have HK0 := Lib.hid (ten6 (HE0.out.c6 (.tail _ (.head _))) (HE0.out.c6 (.tail _ (.tail _ (.tail _ (.tail _ (.tail _ (.tail _ (.tail _ (.tail _ (.head _)))))))))))
  go_wp2_with fail
  go_region_held3 (fun w' => w'.cell? ⟨w6.heap.size, 0, none⟩ = some (.slice A6_0' l2_0.length c6_0') ∧ w'.cell? ⟨w6.heap.size, 1, none⟩ = some (.int .i64 x2_1) ∧ w'.cell? ⟨w6.heap.size, 2, none⟩ = some (.int .i64 x2_2) ∧ w'.cell? ⟨w6.heap.size, 3, none⟩ = some (.slice A6_3' l2_3.length c6_3') ∧ w'.cell? ⟨w6.heap.size, 4, none⟩ = some (.slice A6_4' l2_4.length c6_4') ∧ w'.cell? ⟨w6.heap.size, 5, none⟩ = some (.slice A6_5' l2_5.length c6_5') ∧ w'.cell? ⟨W.heap.size + 1, 0, none⟩ = some (.slice A2_0 l2_0.length c2_0) ∧ w'.cell? ⟨W.heap.size + 1, 1, none⟩ = some (.int .i64 x2_1) ∧ w'.cell? ⟨W.heap.size + 1, 2, none⟩ = some (.int .i64 x2_2) ∧ w'.cell? ⟨W.heap.size + 1, 3, none⟩ = some (.slice A2_3 l2_3.length c2_3) ∧ w'.cell? ⟨W.heap.size + 1, 4, none⟩ = some (.slice A2_4 l2_4.length c2_4) ∧ w'.cell? ⟨W.heap.size + 1, 5, none⟩ = some (.slice A2_5 l2_5.length c2_5))
    (first
      | exact HK0.out
      | exact HK1.out
      | exact HK2.out)
    (first
      | (go_at_call_of 12 (Value.int IntKind.i64 x2_1); refine (toProof_any x2_1 x2_2 _ _ _ _ l2_0 l2_3 l2_4 l2_5 _ (hs2_0.up HE0.out.bel) (hs2_3.up HE0.out.bel) (hs2_4.up HE0.out.bel) (hs2_5.up HE0.out.bel) hL2_0 hN2_0 hL2_3 hL2_4 hL2_5 hN2_5).mono ?_; rintro e w12 ⟨u12_0, u12_3, u12_4, u12_5, vs12_0, vs12_5, rfl, hv12_0, hv12_5, K⟩; have HV12_0 := Lib.hid hv12_0; have HV12_5 := Lib.hid hv12_5; obtain ⟨A12_0', c12_0', rfl⟩ := K.openH hv12_0 (.head _); clear hv12_0; obtain ⟨A12_3', c12_3', rfl⟩ := K.openB' (.tail _ (.head _)); obtain ⟨A12_4', c12_4', rfl⟩ := K.openB' (.tail _ (.tail _ (.head _))); obtain ⟨A12_5', c12_5', rfl⟩ := K.openS hv12_5 (.tail _ (.tail _ (.tail _ (.head _)))); clear hv12_5; have HT := HE0.out.moreF K; clear K; have HX : InvF W w12 [segH (.slice A12_0' l2_0.length c12_0') vs12_0 l2_0, segB 5 (.slice A12_3' l2_3.length c12_3') l2_3, segB 5 (.slice A12_4' l2_4.length c12_4') l2_4, segS 25 5 (.slice A12_5' l2_5.length c12_5') vs12_5 l2_5, segB 5 u8 R, segX 38 w6.heap.size [(.slice A6_0' l2_0.length c6_0'), .int .i64 x2_1, .int .i64 x2_2, (.slice A6_3' l2_3.length c6_3'), (.slice A6_4' l2_4.length c6_4'), (.slice A6_5' l2_5.length c6_5')], segH (.slice A6_0' l2_0.length c6_0') vs6_0 l2_0, segB 5 (.slice A6_3' l2_3.length c6_3') l2_3, segB 5 (.slice A6_4' l2_4.length c6_4') l2_4, segS 25 5 (.slice A6_5' l2_5.length c6_5') vs6_5 l2_5, segB 5 u5 l1, segB 5 u4 R, segX 30 (W.heap.size + 1) [(.slice A2_0 l2_0.length c2_0), .int .i64 x2_1, .int .i64 x2_2, (.slice A2_3 l2_3.length c2_3), (.slice A2_4 l2_4.length c2_4), (.slice A2_5 l2_5.length c2_5)], segX 23 W.heap.size [.int .i64 x0_0, .int .i64 x0_1, .int .i64 x0_2, .int .i64 x0_3, .int .i64 x0_4]] := HT; clear HT; have HE1 := Lib.hid HX; clear HX; have HK1 := Lib.hid (ten6 (HE1.out.c6 (.tail _ (.tail _ (.tail _ (.tail _ (.tail _ (.head _))))))) (HE1.out.c6 (.tail _ (.tail _ (.tail _ (.tail _ (.tail _ (.tail _ (.tail _ (.tail _ (.tail _ (.tail _ (.tail _ (.tail _ (.head _))))))))))))))))
      | (go_at_call 14; refine (eqProof_any x2_1 x2_2 _ _ _ _ _ _ _ _ l2_0 l2_3 l2_4 l2_5 _ (HE1.out.slH HV6_0.out (.tail _ (.tail _ (.tail _ (.tail _ (.tail _ (.tail _ (.head _)))))))) (HE1.out.slB 5 (.tail _ (.tail _ (.tail _ (.tail _ (.tail _ (.tail _ (.tail _ (.head _))))))))) (HE1.out.slB 5 (.tail _ (.tail _ (.tail _ (.tail _ (.tail _ (.tail _ (.tail _ (.tail _ (.head _)))))))))) (HE1.out.slS 25 5 HV6_5.out (.tail _ (.tail _ (.tail _ (.tail _ (.tail _ (.tail _ (.tail _ (.tail _ (.tail _ (.head _))))))))))) (HE1.out.slH HV12_0.out (.head _)) (HE1.out.slB 5 (.tail _ (.head _))) (HE1.out.slB 5 (.tail _ (.tail _ (.head _)))) (HE1.out.slS 25 5 HV12_5.out (.tail _ (.tail _ (.tail _ (.head _)))))).mono ?_; rintro e w13 ⟨rfl, hb⟩; have HX := HE1.out.up hb; clear hb; have HE2 := Lib.hid HX; clear HX; have HK2 := Lib.hid (ten6 (HE2.out.c6 (.tail _ (.tail _ (.tail _ (.tail _ (.tail _ (.head _))))))) (HE2.out.c6 (.tail _ (.tail _ (.tail _ (.tail _ (.tail _ (.tail _ (.tail _ (.tail _ (.tail _ (.tail _ (.tail _ (.tail _ (.head _)))))))))))))))))
  clear H b25_0 b25_1 b25_2 b25_3 b25_4 b25_5 b26_0 b26_1 b26_2 b26_3 b26_4 b26_5 b27_0 b27_1 b27_2 b27_3 b27_4
  have H := HE2.out
  clear HE0 HK0 HE1 HK1 HE2 HK2
  replace H := H.sub (qs := [segB 5 u8 R, segX 38 w6.heap.size [(.slice A6_0' l2_0.length c6_0'), .int .i64 x2_1, .int .i64 x2_2, (.slice A6_3' l2_3.length c6_3'), (.slice A6_4' l2_4.length c6_4'), (.slice A6_5' l2_5.length c6_5')], segH (.slice A6_0' l2_0.length c6_0') vs6_0 l2_0, segB 5 (.slice A6_3' l2_3.length c6_3') l2_3, segB 5 (.slice A6_4' l2_4.length c6_4') l2_4, segS 25 5 (.slice A6_5' l2_5.length c6_5') vs6_5 l2_5, segB 5 u5 l1, segB 5 u4 R, segX 30 (W.heap.size + 1) [(.slice A2_0 l2_0.length c2_0), .int .i64 x2_1, .int .i64 x2_2, (.slice A2_3 l2_3.length c2_3), (.slice A2_4 l2_4.length c2_4), (.slice A2_5 l2_5.length c2_5)], segX 23 W.heap.size [.int .i64 x0_0, .int .i64 x0_1, .int .i64 x0_2, .int .i64 x0_3, .int .i64 x0_4]]) (.cons _ (.cons _ (.cons _ (.cons _ (.cons_cons _ (.cons_cons _ (.cons_cons _ (.cons_cons _ (.cons_cons _ (.cons_cons _ (.cons_cons _ (.cons_cons _ (.cons_cons _ (.cons_cons _ .slnil))))))))))))))
  replace H : InvF W _ [segB 5 u5 l1, segB 5 u8 R, segX 38 w6.heap.size [(.slice A6_0' l2_0.length c6_0'), .int .i64 x2_1, .int .i64 x2_2, (.slice A6_3' l2_3.length c6_3'), (.slice A6_4' l2_4.length c6_4'), (.slice A6_5' l2_5.length c6_5')], segH (.slice A6_0' l2_0.length c6_0') vs6_0 l2_0, segB 5 (.slice A6_3' l2_3.length c6_3') l2_3, segB 5 (.slice A6_4' l2_4.length c6_4') l2_4, segS 25 5 (.slice A6_5' l2_5.length c6_5') vs6_5 l2_5, segB 5 u4 R, segX 30 (W.heap.size + 1) [(.slice A2_0 l2_0.length c2_0), .int .i64 x2_1, .int .i64 x2_2, (.slice A2_3 l2_3.length c2_3), (.slice A2_4 l2_4.length c2_4), (.slice A2_5 l2_5.length c2_5)], segX 23 W.heap.size [.int .i64 x0_0, .int .i64 x0_1, .int .i64 x0_2, .int .i64 x0_3, .int .i64 x0_4]] := H.front 6 rfl
  obtain ⟨b28_0, b28_1, b28_2, b28_3, b28_4, b28_5⟩ := H.c6 (.tail _ (.tail _ (.head _)))
  obtain ⟨b29_0, b29_1, b29_2, b29_3, b29_4, b29_5⟩ := H.c6 (.tail _ (.tail _ (.tail _ (.tail _ (.tail _ (.tail _ (.tail _ (.tail _ (.head _)))))))))
  obtain ⟨b30_0, b30_1, b30_2, b30_3, b30_4⟩ := H.c5 (.tail _ (.tail _ (.tail _ (.tail _ (.tail _ (.tail _ (.tail _ (.tail _ (.tail _ (.head _))))))))))
  go_wp2_with fail
  refine (markByteS_z _ l1 (1) _ _ _ (H.ownB 5 (.head _)) rfl (by omega) (by omega)).mono ?_
  rintro e w14 ⟨rfl, ho, hg⟩
  replace H := H.wroteB ho hg
  clear ho hg
  replace H : InvF W _ [segS 25 5 (.slice A6_5' l2_5.length c6_5') vs6_5 l2_5, segB 5 u5 (marks (1) l1.length), segB 5 u8 R, segX 38 w6.heap.size [(.slice A6_0' l2_0.length c6_0'), .int .i64 x2_1, .int .i64 x2_2, (.slice A6_3' l2_3.length c6_3'), (.slice A6_4' l2_4.length c6_4'), (.slice A6_5' l2_5.length c6_5')], segH (.slice A6_0' l2_0.length c6_0') vs6_0 l2_0, segB 5 (.slice A6_3' l2_3.length c6_3') l2_3, segB 5 (.slice A6_4' l2_4.length c6_4') l2_4, segB 5 u4 R, segX 30 (W.heap.size + 1) [(.slice A2_0 l2_0.length c2_0), .int .i64 x2_1, .int .i64 x2_2, (.slice A2_3 l2_3.length c2_3), (.slice A2_4 l2_4.length c2_4), (.slice A2_5 l2_5.length c2_5)], segX 23 W.heap.size [.int .i64 x0_0, .int .i64 x0_1, .int .i64 x0_2, .int .i64 x0_3, .int .i64 x0_4]] := H.front 6 rfl
  replace H : InvF W _ [segB 5 (.slice A6_4' l2_4.length c6_4') l2_4, segS 25 5 (.slice A6_5' l2_5.length c6_5') vs6_5 l2_5, segB 5 u5 (marks (1) l1.length), segB 5 u8 R, segX 38 w6.heap.size [(.slice A6_0' l2_0.length c6_0'), .int .i64 x2_1, .int .i64 x2_2, (.slice A6_3' l2_3.length c6_3'), (.slice A6_4' l2_4.length c6_4'), (.slice A6_5' l2_5.length c6_5')], segH (.slice A6_0' l2_0.length c6_0') vs6_0 l2_0, segB 5 (.slice A6_3' l2_3.length c6_3') l2_3, segB 5 u4 R, segX 30 (W.heap.size + 1) [(.slice A2_0 l2_0.length c2_0), .int .i64 x2_1, .int .i64 x2_2, (.slice A2_3 l2_3.length c2_3), (.slice A2_4 l2_4.length c2_4), (.slice A2_5 l2_5.length c2_5)], segX 23 W.heap.size [.int .i64 x0_0, .int .i64 x0_1, .int .i64 x0_2, .int .i64 x0_3, .int .i64 x0_4]] := H.front 6 rfl
  replace H : InvF W _ [segB 5 (.slice A6_3' l2_3.length c6_3') l2_3, segB 5 (.slice A6_4' l2_4.length c6_4') l2_4, segS 25 5 (.slice A6_5' l2_5.length c6_5') vs6_5 l2_5, segB 5 u5 (marks (1) l1.length), segB 5 u8 R, segX 38 w6.heap.size [(.slice A6_0' l2_0.length c6_0'), .int .i64 x2_1, .int .i64 x2_2, (.slice A6_3' l2_3.length c6_3'), (.slice A6_4' l2_4.length c6_4'), (.slice A6_5' l2_5.length c6_5')], segH (.slice A6_0' l2_0.length c6_0') vs6_0 l2_0, segB 5 u4 R, segX 30 (W.heap.size + 1) [(.slice A2_0 l2_0.length c2_0), .int .i64 x2_1, .int .i64 x2_2, (.slice A2_3 l2_3.length c2_3), (.slice A2_4 l2_4.length c2_4), (.slice A2_5 l2_5.length c2_5)], segX 23 W.heap.size [.int .i64 x0_0, .int .i64 x0_1, .int .i64 x0_2, .int .i64 x0_3, .int .i64 x0_4]] := H.front 6 rfl
  replace H : InvF W _ [segH (.slice A6_0' l2_0.length c6_0') vs6_0 l2_0, segB 5 (.slice A6_3' l2_3.length c6_3') l2_3, segB 5 (.slice A6_4' l2_4.length c6_4') l2_4, segS 25 5 (.slice A6_5' l2_5.length c6_5') vs6_5 l2_5, segB 5 u5 (marks (1) l1.length), segB 5 u8 R, segX 38 w6.heap.size [(.slice A6_0' l2_0.length c6_0'), .int .i64 x2_1, .int .i64 x2_2, (.slice A6_3' l2_3.length c6_3'), (.slice A6_4' l2_4.length c6_4'), (.slice A6_5' l2_5.length c6_5')], segB 5 u4 R, segX 30 (W.heap.size + 1) [(.slice A2_0 l2_0.length c2_0), .int .i64 x2_1, .int .i64 x2_2, (.slice A2_3 l2_3.length c2_3), (.slice A2_4 l2_4.length c2_4), (.slice A2_5 l2_5.length c2_5)], segX 23 W.heap.size [.int .i64 x0_0, .int .i64 x0_1, .int .i64 x0_2, .int .i64 x0_3, .int .i64 x0_4]] := H.front 6 rfl
  clear b28_0 b28_1 b28_2 b28_3 b28_4 b28_5 b29_0 b29_1 b29_2 b29_3 b29_4 b29_5 b30_0 b30_1 b30_2 b30_3 b30_4
  obtain ⟨b31_0, b31_1, b31_2, b31_3, b31_4, b31_5⟩ := H.c6 (.tail _ (.tail _ (.tail _ (.tail _ (.tail _ (.tail _ (.head _)))))))
  obtain ⟨b32_0, b32_1, b32_2, b32_3, b32_4, b32_5⟩ := H.c6 (.tail _ (.tail _ (.tail _ (.tail _ (.tail _ (.tail _ (.tail _ (.tail _ (.head _)))))))))
  obtain ⟨b33_0, b33_1, b33_2, b33_3, b33_4⟩ := H.c5 (.tail _ (.tail _ (.tail _ (.tail _ (.tail _ (.tail _ (.tail _ (.tail _ (.tail _ (.head _))))))))))
  go_wp2_with fail
  refine (markProof_z x2_1 x2_2 W _ _ _ _ _ _ _ l2_0 l2_3 l2_4 l2_5 _ (1 + l1.length) _ HV6_0.out HV6_5.out H (by simp) (by omega) (by omega) (by omega) (by omega) (by omega)).mono ?_
  rintro e w15 ⟨rfl, K⟩
  replace H := K
  clear K
  have HV6_0m15 : Hid (OkH (marksH (1 + l1.length) l2_0) vs6_0) := Lib.hid (HV6_0.out.marks _)
  have HV6_5m15 : Hid (vs6_5.length = (marksS (1 + l1.length + mkH l2_0 + l2_3.length + l2_4.length) l2_5).length) := Lib.hid (by rw [marksS_length]; exact HV6_5.out)
  replace H : InvF W w15 [segH (.slice A6_0' l2_0.length c6_0') vs6_0 (marksH (1 + l1.length) l2_0), segB 5 (.slice A6_3' l2_3.length c6_3') (marks (1 + l1.length + mkH l2_0) l2_3.length), segB 5 (.slice A6_4' l2_4.length c6_4') (marks (1 + l1.length + mkH l2_0 + l2_3.length) l2_4.length), segS 25 5 (.slice A6_5' l2_5.length c6_5') vs6_5 (marksS (1 + l1.length + mkH l2_0 + l2_3.length + l2_4.length) l2_5), segB 5 u5 (marks (1) l1.length), segB 5 u8 R, segX 38 w6.heap.size [(.slice A6_0' l2_0.length c6_0'), .int .i64 x2_1, .int .i64 x2_2, (.slice A6_3' l2_3.length c6_3'), (.slice A6_4' l2_4.length c6_4'), (.slice A6_5' l2_5.length c6_5')], segB 5 u4 R, segX 30 (W.heap.size + 1) [(.slice A2_0 l2_0.length c2_0), .int .i64 x2_1, .int .i64 x2_2, (.slice A2_3 l2_3.length c2_3), (.slice A2_4 l2_4.length c2_4), (.slice A2_5 l2_5.length c2_5)], segX 23 W.heap.size [.int .i64 x0_0, .int .i64 x0_1, .int .i64 x0_2, .int .i64 x0_3, .int .i64 x0_4]] := H
  have hltk : ¬ ((1 : Int) + (l1.length : Int) + (mkH l2_0 : Int) + (l2_3.length : Int) + (l2_4.length : Int) + (sumL l2_5 : Int) < 0) := by omega
  clear b31_0 b31_1 b31_2 b31_3 b31_4 b31_5 b32_0 b32_1 b32_2 b32_3 b32_4 b32_5 b33_0 b33_1 b33_2 b33_3 b33_4
  obtain ⟨b34_0, b34_1, b34_2, b34_3, b34_4, b34_5⟩ := H.c6 (.tail _ (.tail _ (.tail _ (.tail _ (.tail _ (.tail _ (.head _)))))))
  obtain ⟨b35_0, b35_1, b35_2, b35_3, b35_4, b35_5⟩ := H.c6 (.tail _ (.tail _ (.tail _ (.tail _ (.tail _ (.tail _ (.tail _ (.tail _ (.head _)))))))))
  obtain ⟨b36_0, b36_1, b36_2, b36_3, b36_4⟩ := H.c5 (.tail _ (.tail _ (.tail _ (.tail _ (.tail _ (.tail _ (.tail _ (.tail _ (.tail _ (.head _))))))))))
  go_wp2_with fail
  refine (eqByteS_any _ _ R _ (H.slB 5 (.tail _ (.tail _ (.tail _ (.tail _ (.tail _ (.head _))))))) (H.slB 5 (.tail _ (.tail _ (.tail _ (.tail _ (.tail _ (.tail _ (.tail _ (.head _)))))))))).mono ?_
  rintro e _ ⟨rfl, d16, rfl⟩
  replace H := H.drewN d16
  replace H := H.sub (qs := [segB 5 u8 R, segB 5 u4 R, segX 30 (W.heap.size + 1) [(.slice A2_0 l2_0.length c2_0), .int .i64 x2_1, .int .i64 x2_2, (.slice A2_3 l2_3.length c2_3), (.slice A2_4 l2_4.length c2_4), (.slice A2_5 l2_5.length c2_5)], segX 23 W.heap.size [.int .i64 x0_0, .int .i64 x0_1, .int .i64 x0_2, .int .i64 x0_3, .int .i64 x0_4]]) (.cons _ (.cons _ (.cons _ (.cons _ (.cons _ (.cons_cons _ (.cons _ (.cons_cons _ (.cons_cons _ (.cons_cons _ .slnil))))))))))
  clear b34_0 b34_1 b34_2 b34_3 b34_4 b34_5 b35_0 b35_1 b35_2 b35_3 b35_4 b35_5 b36_0 b36_1 b36_2 b36_3 b36_4
  obtain ⟨b37_0, b37_1, b37_2, b37_3, b37_4, b37_5⟩ := H.c6 (.tail _ (.tail _ (.head _)))
  obtain ⟨b38_0, b38_1, b38_2, b38_3, b38_4⟩ := H.c5 (.tail _ (.tail _ (.tail _ (.head _))))
  go_wp2_with fail
  refine (markByteS_z _ R (1) _ _ _ (H.ownB 5 (.head _)) rfl (by omega) (by omega)).mono ?_
  rintro e w17 ⟨rfl, ho, hg⟩
  replace H := H.wroteB ho hg
  clear ho hg
  clear b37_0 b37_1 b37_2 b37_3 b37_4 b37_5 b38_0 b38_1 b38_2 b38_3 b38_4
  obtain ⟨b39_0, b39_1, b39_2, b39_3, b39_4, b39_5⟩ := H.c6 (.tail _ (.tail _ (.head _)))
  obtain ⟨b40_0, b40_1, b40_2, b40_3, b40_4⟩ := H.c5 (.tail _ (.tail _ (.tail _ (.head _))))
  go_wp2_with fail
  refine (heldByteS_z _ 1 R.length _ _ (H.slB 5 (.head _)) rfl (by omega) (by omega)).mono ?_
  rintro e _ ⟨rfl, d18, rfl⟩
  replace H := H.drewN d18
  have hltL : ¬ ((1 : Int) + (R.length : Int) < 0) := by omega
  have hneL : ((1 : Int) + (R.length : Int) != 1 + (R.length : Int)) = false := by simp
  clear b39_0 b39_1 b39_2 b39_3 b39_4 b39_5 b40_0 b40_1 b40_2 b40_3 b40_4
  obtain ⟨b41_0, b41_1, b41_2, b41_3, b41_4, b41_5⟩ := H.c6 (.tail _ (.tail _ (.head _)))
  obtain ⟨b42_0, b42_1, b42_2, b42_3, b42_4⟩ := H.c5 (.tail _ (.tail _ (.tail _ (.head _))))
  have HE0 := Lib.hid (H.drewN 1)
  have HK0 := Lib.hid (ten (HE0.out.c5 (.tail _ (.tail _ (.tail _ (.head _))))) (HE0.out.c6 (.tail _ (.tail _ (.head _)))))
  go_wp2_with fail
  go_region_held3 (fun w' => w'.cell? ⟨W.heap.size, 0, none⟩ = some (.int .i64 x0_0) ∧ w'.cell? ⟨W.heap.size, 1, none⟩ = some (.int .i64 x0_1) ∧ w'.cell? ⟨W.heap.size, 2, none⟩ = some (.int .i64 x0_2) ∧ w'.cell? ⟨W.heap.size, 3, none⟩ = some (.int .i64 x0_3) ∧ w'.cell? ⟨W.heap.size, 4, none⟩ = some (.int .i64 x0_4) ∧ w'.cell? ⟨W.heap.size + 1, 0, none⟩ = some (.slice A2_0 l2_0.length c2_0) ∧ w'.cell? ⟨W.heap.size + 1, 1, none⟩ = some (.int .i64 x2_1) ∧ w'.cell? ⟨W.heap.size + 1, 2, none⟩ = some (.int .i64 x2_2) ∧ w'.cell? ⟨W.heap.size + 1, 3, none⟩ = some (.slice A2_3 l2_3.length c2_3) ∧ w'.cell? ⟨W.heap.size + 1, 4, none⟩ = some (.slice A2_4 l2_4.length c2_4) ∧ w'.cell? ⟨W.heap.size + 1, 5, none⟩ = some (.slice A2_5 l2_5.length c2_5))
    (first
      | exact HK0.out
      | exact HK1.out
      | exact HK2.out
      | exact HK3.out
      | exact HK4.out)
    (first
      | (go_at_call_of 11 (Value.int IntKind.i64 x0_0); refine (toLimits_any x0_0 x0_1 x0_2 x0_3 x0_4   _  ).mono ?_; rintro e w19 ⟨rfl, hb⟩; have HX := HE0.out.up hb; clear hb; have HE1 := Lib.hid HX; clear HX; have HK1 := Lib.hid (ten (HE1.out.c5 (.tail _ (.tail _ (.tail _ (.head _))))) (HE1.out.c6 (.tail _ (.tail _ (.head _))))))
      | (go_at_call 18; refine (toByteS_any _ l1 _ (hs1.up HE1.out.bel) (by omega)).mono ?_; rintro e w20 ⟨u20, rfl, ho, hb⟩; have HX := HE1.out.moreB ho hb; clear ho hb; have HE2 := Lib.hid HX; clear HX; have HK2 := Lib.hid (ten (HE2.out.c5 (.tail _ (.tail _ (.tail _ (.tail _ (.head _)))))) (HE2.out.c6 (.tail _ (.tail _ (.tail _ (.head _)))))))
      | (go_at_call_of 12 (Value.int IntKind.i64 x2_1); refine (toProof_any x2_1 x2_2 _ _ _ _ l2_0 l2_3 l2_4 l2_5 _ (hs2_0.up HE2.out.bel) (hs2_3.up HE2.out.bel) (hs2_4.up HE2.out.bel) (hs2_5.up HE2.out.bel) hL2_0 hN2_0 hL2_3 hL2_4 hL2_5 hN2_5).mono ?_; rintro e w21 ⟨u21_0, u21_3, u21_4, u21_5, vs21_0, vs21_5, rfl, hv21_0, hv21_5, K⟩; have HV21_0 := Lib.hid hv21_0; have HV21_5 := Lib.hid hv21_5; obtain ⟨A21_0', c21_0', rfl⟩ := K.openH hv21_0 (.head _); clear hv21_0; obtain ⟨A21_3', c21_3', rfl⟩ := K.openB' (.tail _ (.head _)); obtain ⟨A21_4', c21_4', rfl⟩ := K.openB' (.tail _ (.tail _ (.head _))); obtain ⟨A21_5', c21_5', rfl⟩ := K.openS hv21_5 (.tail _ (.tail _ (.tail _ (.head _)))); clear hv21_5; have HT := HE2.out.moreF K; clear K; have HX : InvF W w21 [segH (.slice A21_0' l2_0.length c21_0') vs21_0 l2_0, segB 5 (.slice A21_3' l2_3.length c21_3') l2_3, segB 5 (.slice A21_4' l2_4.length c21_4') l2_4, segS 25 5 (.slice A21_5' l2_5.length c21_5') vs21_5 l2_5, segB 5 u20 l1, segB 5 u8 (marks (1) R.length), segB 5 u4 R, segX 30 (W.heap.size + 1) [(.slice A2_0 l2_0.length c2_0), .int .i64 x2_1, .int .i64 x2_2, (.slice A2_3 l2_3.length c2_3), (.slice A2_4 l2_4.length c2_4), (.slice A2_5 l2_5.length c2_5)], segX 23 W.heap.size [.int .i64 x0_0, .int .i64 x0_1, .int .i64 x0_2, .int .i64 x0_3, .int .i64 x0_4]] := HT; clear HT; have HE3 := Lib.hid HX; clear HX; have HK3 := Lib.hid (ten (HE3.out.c5 (.tail _ (.tail _ (.tail _ (.tail _ (.tail _ (.tail _ (.tail _ (.tail _ (.head _)))))))))) (HE3.out.c6 (.tail _ (.tail _ (.tail _ (.tail _ (.tail _ (.tail _ (.tail _ (.head _)))))))))))
      | (go_at_call 19; refine (implPutProof_any x0_0 x0_1 x0_2 x0_3 x0_4 x2_1 x2_2 _ _ _ _ _ l1 l2_0 l2_3 l2_4 l2_5 _  (HE3.out.slB 5 (.tail _ (.tail _ (.tail _ (.tail _ (.head _)))))) (HE3.out.slH HV21_0.out (.head _)) (HE3.out.slB 5 (.tail _ (.head _))) (HE3.out.slB 5 (.tail _ (.tail _ (.head _)))) (HE3.out.slS 25 5 HV21_5.out (.tail _ (.tail _ (.tail _ (.head _))))) (by omega) (by omega) (by omega) (by omega) (by omega) ).mono ?_; rw [← HR.out, ← HB0.out]; rintro e w22 ⟨u22, rfl, ho, hb⟩; have HX := HE3.out.moreB ho hb; clear ho hb; have HE4 := Lib.hid HX; clear HX; have HK4 := Lib.hid (ten (HE4.out.c5 (.tail _ (.tail _ (.tail _ (.tail _ (.tail _ (.tail _ (.tail _ (.tail _ (.tail _ (.head _))))))))))) (HE4.out.c6 (.tail _ (.tail _ (.tail _ (.tail _ (.tail _ (.tail _ (.tail _ (.tail _ (.head _)))))))))))))
  clear H b41_0 b41_1 b41_2 b41_3 b41_4 b41_5 b42_0 b42_1 b42_2 b42_3 b42_4
  have H := HE4.out
  clear HE0 HK0 HE1 HK1 HE2 HK2 HE3 HK3 HE4 HK4
  obtain ⟨b43_0, b43_1, b43_2, b43_3, b43_4, b43_5⟩ := H.c6 (.tail _ (.tail _ (.tail _ (.tail _ (.tail _ (.tail _ (.tail _ (.tail _ (.head _)))))))))
  obtain ⟨b44_0, b44_1, b44_2, b44_3, b44_4⟩ := H.c5 (.tail _ (.tail _ (.tail _ (.tail _ (.tail _ (.tail _ (.tail _ (.tail _ (.tail _ (.head _))))))))))
  go_wp2_with fail
  refine (eqByteS_any _ _ R _ (H.slB 5 (.head _)) (H.slB 5 (.tail _ (.tail _ (.tail _ (.tail _ (.tail _ (.tail _ (.tail _ (.head _)))))))))).mono ?_
  rintro e _ ⟨rfl, d23, rfl⟩
  replace H := H.drewN d23
  clear b43_0 b43_1 b43_2 b43_3 b43_4 b43_5 b44_0 b44_1 b44_2 b44_3 b44_4
  obtain ⟨b45_0, b45_1, b45_2, b45_3, b45_4, b45_5⟩ := H.c6 (.tail _ (.tail _ (.tail _ (.tail _ (.tail _ (.tail _ (.tail _ (.tail _ (.head _)))))))))
  obtain ⟨b46_0, b46_1, b46_2, b46_3, b46_4⟩ := H.c5 (.tail _ (.tail _ (.tail _ (.tail _ (.tail _ (.tail _ (.tail _ (.tail _ (.tail _ (.head _))))))))))
  go_wp2_with fail
  refine (heldByteS_z _ 1 R.length _ _ (H.slB 5 (.tail _ (.tail _ (.tail _ (.tail _ (.tail _ (.tail _ (.head _)))))))) rfl (by omega) (by omega)).mono ?_
  rintro e _ ⟨rfl, d24, rfl⟩
  replace H := H.drewN d24
  clear b45_0 b45_1 b45_2 b45_3 b45_4 b45_5 b46_0 b46_1 b46_2 b46_3 b46_4
  obtain ⟨b47_0, b47_1, b47_2, b47_3, b47_4, b47_5⟩ := H.c6 (.tail _ (.tail _ (.tail _ (.tail _ (.tail _ (.tail _ (.tail _ (.tail _ (.head _)))))))))
  obtain ⟨b48_0, b48_1, b48_2, b48_3, b48_4⟩ := H.c5 (.tail _ (.tail _ (.tail _ (.tail _ (.tail _ (.tail _ (.tail _ (.tail _ (.tail _ (.head _))))))))))
  go_wp2_with fail
  go_ret
  exact ⟨rfl, by have hfin := H.bel; simpa using hfin⟩
end Go.Proofs.Ytopbalemfljphaa
