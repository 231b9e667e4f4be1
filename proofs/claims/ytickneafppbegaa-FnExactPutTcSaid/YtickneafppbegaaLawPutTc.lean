/- The walk of the exact law of PutTc: for every argument the law answers true and leaves all memory that was there as it was. -/
import Derived.Test.YtickneafppbegaaTc
import Derived.Test.YtickneafppbegaaPutTc
import Derived.Deep.RegionHeld3
namespace Go.Proofs.Ytickneafppbegaa
open Go.ChangeShapes Go.WideShapes Go.ChangeAt Go.RowKit

set_option maxRecDepth 100000 in
set_option maxHeartbeats 8000000 in
theorem PutTc_walk (x0_0 x0_1 x0_2 x0_3 x0_4 : Int) (v1 : Value) (l1 : List UInt8) (x2_0 : Int) (v2_1 : Value) (l2_1 : List Et) (W : World) (h1 : Sl W W.heap.size v1 l1) (h2_1 : SlE W W.heap.size v2_1 l2_1)  :
    Calls Try.prog 5 #[.agg #[.int .i64 x0_0, .int .i64 x0_1, .int .i64 x0_2, .int .i64 x0_3, .int .i64 x0_4], v1, .agg #[.int .i64 x2_0, v2_1]] W (Yes W) := by
  have hs1 := h1
  obtain ⟨A1, c1, rfl, p1, q1, r1, z1⟩ := h1
  unfold maxLen at q1
  clear r1 z1
  have hs2_1 := h2_1
  obtain ⟨A2_1, c2_1, rfl, p2_1, q2_1, r2_1, z2_1⟩ := h2_1
  unfold maxLen at q2_1
  clear r2_1 z2_1
  by_cases hbig1 : 1048576 < l1.length
  · have hb : (1048576 : Int) < (l1.length : Int) := by omega
    go_enter Try.func5, Try.ntmps5
    go_wp2
    go_ret
    exact ⟨rfl, (((Below.refl _ _).alloc (by simp <;> omega) _).alloc (by simp <;> omega) _)⟩
  have hb1 : ¬ ((1048576 : Int) < (l1.length : Int)) := by omega
  by_cases hbig : (1048576 : Int) < (l2_1.length : Int) + (volE l2_1 : Int)
  · have HZ0 : Hid (szTZ l2_1 (1048576 : Int) = -1) := Lib.hid (by exact szTZ_big hbig)
    clear hbig
    have H : InvF W W [] := InvF.start W
    replace H := H.newG 23 #[.int .i64 x0_0, .int .i64 x0_1, .int .i64 x0_2, .int .i64 x0_3, .int .i64 x0_4] (W.heap.size)
    replace H := H.newG 26 #[.int .i64 x2_0, .slice A2_1 l2_1.length c2_1] (W.heap.size + 1)
    replace H : InvF W _ [segX 26 (W.heap.size + 1) [.int .i64 x2_0, (.slice A2_1 l2_1.length c2_1)], segX 23 W.heap.size [.int .i64 x0_0, .int .i64 x0_1, .int .i64 x0_2, .int .i64 x0_3, .int .i64 x0_4]] := H
    go_enter Try.func5, Try.ntmps5
    obtain ⟨b1_0, b1_1⟩ := H.c2 (.head _)
    obtain ⟨b2_0, b2_1, b2_2, b2_3, b2_4⟩ := H.c5 (.tail _ (.head _))
    go_wp2_with fail
    refine (szTc_any x2_0 _ l2_1 1048576 _ (hs2_1.up H.bel) (by omega) (by omega)).mono ?_
    rw [HZ0.out]
    rintro e wz0 ⟨rfl, hb⟩
    replace H := H.up hb
    clear hb
    clear b1_0 b1_1 b2_0 b2_1 b2_2 b2_3 b2_4
    obtain ⟨b3_0, b3_1⟩ := H.c2 (.head _)
    obtain ⟨b4_0, b4_1, b4_2, b4_3, b4_4⟩ := H.c5 (.tail _ (.head _))
    go_wp2
    go_ret
    exact ⟨rfl, H.bel⟩
  obtain ⟨zz0, hz⟩ : ∃ z, z = (1048576 : Int) - ((l2_1.length : Int) + (volE l2_1 : Int)) := ⟨_, rfl⟩
  have HZ0 : Hid (szTZ l2_1 (1048576 : Int) = zz0) := Lib.hid (by rw [hz]; exact szTZ_ok hbig)
  have hzlo0 : 0 ≤ zz0 := by omega
  have hzhi0 : zz0 ≤ 1048576 := by omega
  have hzn0 : ¬ (zz0 < 0) := by omega
  have hL2_1 : l2_1.length ≤ 1048576 := by omega
  have hN2_1 : volE l2_1 ≤ 1048576 := by omega
  have hM2_1 : mkE l2_1 ≤ 4194304 := by unfold mkE; omega
  have hT2 : l2_1.length + volE l2_1 ≤ 1048576 := by omega
  clear hbig hz
  have hp : (putTcL x0_0 x0_1 x0_2 x0_3 x0_4 l1 x2_0 l2_1).length ≤ 4194304 := by have := putTcL_len x0_0 x0_1 x0_2 x0_3 x0_4 l1 x2_0 l2_1; omega
  obtain ⟨R, hR⟩ : ∃ R, R = putTcL x0_0 x0_1 x0_2 x0_3 x0_4 l1 x2_0 l2_1 := ⟨_, rfl⟩
  rw [← hR] at hp
  have HR := Lib.hid hR
  clear hR
  obtain ⟨b0, hB⟩ : ∃ b, b = tcB x0_0 x0_1 x0_2 x0_3 x0_4 x2_0 l2_1 := ⟨_, rfl⟩
  have HB0 := Lib.hid hB
  clear hB
  have hbb0 : (b0 != b0) = false := by simp
  have H : InvF W W [] := InvF.start W
  replace H := H.newG 23 #[.int .i64 x0_0, .int .i64 x0_1, .int .i64 x0_2, .int .i64 x0_3, .int .i64 x0_4] (W.heap.size)
  replace H := H.newG 26 #[.int .i64 x2_0, .slice A2_1 l2_1.length c2_1] (W.heap.size + 1)
  replace H : InvF W _ [segX 26 (W.heap.size + 1) [.int .i64 x2_0, (.slice A2_1 l2_1.length c2_1)], segX 23 W.heap.size [.int .i64 x0_0, .int .i64 x0_1, .int .i64 x0_2, .int .i64 x0_3, .int .i64 x0_4]] := H
  go_enter Try.func5, Try.ntmps5
  obtain ⟨b5_0, b5_1⟩ := H.c2 (.head _)
  obtain ⟨b6_0, b6_1, b6_2, b6_3, b6_4⟩ := H.c5 (.tail _ (.head _))
  go_wp2_with fail
  refine (szTc_any x2_0 _ l2_1 1048576 _ (hs2_1.up H.bel) (by omega) (by omega)).mono ?_
  rw [HZ0.out]
  rintro e wz0 ⟨rfl, hb⟩
  replace H := H.up hb
  clear hb
  clear b5_0 b5_1 b6_0 b6_1 b6_2 b6_3 b6_4
  obtain ⟨b7_0, b7_1⟩ := H.c2 (.head _)
  obtain ⟨b8_0, b8_1, b8_2, b8_3, b8_4⟩ := H.c5 (.tail _ (.head _))
  have HE0 := Lib.hid (H.drewN 1)
  have HK0 := Lib.hid (ten (HE0.out.c5 (.tail _ (.head _))) (HE0.out.c2 (.head _)))
  go_wp2_with fail
  go_region_held3 (fun w' => w'.cell? ⟨W.heap.size, 0, none⟩ = some (.int .i64 x0_0) ∧ w'.cell? ⟨W.heap.size, 1, none⟩ = some (.int .i64 x0_1) ∧ w'.cell? ⟨W.heap.size, 2, none⟩ = some (.int .i64 x0_2) ∧ w'.cell? ⟨W.heap.size, 3, none⟩ = some (.int .i64 x0_3) ∧ w'.cell? ⟨W.heap.size, 4, none⟩ = some (.int .i64 x0_4) ∧ w'.cell? ⟨W.heap.size + 1, 0, none⟩ = some (.int .i64 x2_0) ∧ w'.cell? ⟨W.heap.size + 1, 1, none⟩ = some (.slice A2_1 l2_1.length c2_1))
    (first
      | exact HK0.out
      | exact HK1.out
      | exact HK2.out
      | exact HK3.out
      | exact HK4.out)
    (first
      | (go_at_call_of 10 (Value.int IntKind.i64 x0_0); refine (toLimits_any x0_0 x0_1 x0_2 x0_3 x0_4   _  ).mono ?_; rintro e w1 ⟨rfl, hb⟩; have HX := HE0.out.up hb; clear hb; have HE1 := Lib.hid HX; clear HX; have HK1 := Lib.hid (ten (HE1.out.c5 (.tail _ (.head _))) (HE1.out.c2 (.head _))))
      | (go_at_call 17; refine (toByteS_any _ l1 _ (hs1.up HE1.out.bel) (by omega)).mono ?_; rintro e w2 ⟨u2, rfl, ho, hb⟩; have HX := HE1.out.moreB ho hb; clear ho hb; have HE2 := Lib.hid HX; clear HX; have HK2 := Lib.hid (ten (HE2.out.c5 (.tail _ (.tail _ (.head _)))) (HE2.out.c2 (.tail _ (.head _)))))
      | (go_at_call_of 11 (Value.int IntKind.i64 x2_0); refine (toTc_any x2_0 _ l2_1 _ (hs2_1.up HE2.out.bel) hL2_1 hN2_1).mono ?_; rintro e w3 ⟨u3_1, vs3_1, rfl, hv3_1, K⟩; have HV3_1 := Lib.hid hv3_1; obtain ⟨A3_1', c3_1', rfl⟩ := K.openE hv3_1 (.head _); clear hv3_1; have HT := HE2.out.moreF K; clear K; have HX : InvF W w3 [segE (.slice A3_1' l2_1.length c3_1') vs3_1 l2_1, segB 5 u2 l1, segX 26 (W.heap.size + 1) [.int .i64 x2_0, (.slice A2_1 l2_1.length c2_1)], segX 23 W.heap.size [.int .i64 x0_0, .int .i64 x0_1, .int .i64 x0_2, .int .i64 x0_3, .int .i64 x0_4]] := HT; clear HT; have HE3 := Lib.hid HX; clear HX; have HK3 := Lib.hid (ten (HE3.out.c5 (.tail _ (.tail _ (.tail _ (.head _))))) (HE3.out.c2 (.tail _ (.tail _ (.head _))))))
      | (go_at_call 16; refine (specPutTc_any x0_0 x0_1 x0_2 x0_3 x0_4 x2_0 _ _ l1 l2_1 _  (HE3.out.slB 5 (.tail _ (.head _))) (HE3.out.slE HV3_1.out (.head _)) (by omega) ).mono ?_; rw [← HR.out, ← HB0.out]; rintro e w4 ⟨u4, rfl, ho, hb⟩; have HX := HE3.out.moreB ho hb; clear ho hb; have HE4 := Lib.hid HX; clear HX; have HK4 := Lib.hid (ten (HE4.out.c5 (.tail _ (.tail _ (.tail _ (.tail _ (.head _)))))) (HE4.out.c2 (.tail _ (.tail _ (.tail _ (.head _))))))))
  clear H b7_0 b7_1 b8_0 b8_1 b8_2 b8_3 b8_4
  have H := HE4.out
  clear HE0 HK0 HE1 HK1 HE2 HK2 HE3 HK3 HE4 HK4
  replace H := H.sub (qs := [segB 5 u4 R, segX 26 (W.heap.size + 1) [.int .i64 x2_0, (.slice A2_1 l2_1.length c2_1)], segX 23 W.heap.size [.int .i64 x0_0, .int .i64 x0_1, .int .i64 x0_2, .int .i64 x0_3, .int .i64 x0_4]]) (.cons_cons _ (.cons _ (.cons _ (.cons_cons _ (.cons_cons _ .slnil)))))
  obtain ⟨b9_0, b9_1⟩ := H.c2 (.tail _ (.head _))
  obtain ⟨b10_0, b10_1, b10_2, b10_3, b10_4⟩ := H.c5 (.tail _ (.tail _ (.head _)))
  go_wp2_with fail
  refine (toByteS_any _ l1 _ (hs1.up H.bel) (by omega)).mono ?_
  rintro e w5 ⟨u5, rfl, ho, hb⟩
  replace H := H.moreB ho hb
  clear ho hb
  clear b9_0 b9_1 b10_0 b10_1 b10_2 b10_3 b10_4
  obtain ⟨b11_0, b11_1⟩ := H.c2 (.tail _ (.tail _ (.head _)))
  obtain ⟨b12_0, b12_1, b12_2, b12_3, b12_4⟩ := H.c5 (.tail _ (.tail _ (.tail _ (.head _))))
  go_wp2_with fail
  refine (toTc_any x2_0 _ l2_1 _ (hs2_1.up H.bel) hL2_1 hN2_1).mono ?_
  rintro e w6 ⟨u6_1, vs6_1, rfl, hv6_1, K⟩
  have HV6_1 := Lib.hid hv6_1
  obtain ⟨A6_1', c6_1', rfl⟩ := K.openE hv6_1 (.head _)
  clear hv6_1
  have HT := H.moreF K
  clear K
  replace H : InvF W w6 [segE (.slice A6_1' l2_1.length c6_1') vs6_1 l2_1, segB 5 u5 l1, segB 5 u4 R, segX 26 (W.heap.size + 1) [.int .i64 x2_0, (.slice A2_1 l2_1.length c2_1)], segX 23 W.heap.size [.int .i64 x0_0, .int .i64 x0_1, .int .i64 x0_2, .int .i64 x0_3, .int .i64 x0_4]] := HT
  clear HT
  replace H := H.newX 33 #[.int .i64 x2_0, (.slice A6_1' l2_1.length c6_1')]
  replace H : InvF W _ [segX 33 w6.heap.size [.int .i64 x2_0, (.slice A6_1' l2_1.length c6_1')], segE (.slice A6_1' l2_1.length c6_1') vs6_1 l2_1, segB 5 u5 l1, segB 5 u4 R, segX 26 (W.heap.size + 1) [.int .i64 x2_0, (.slice A2_1 l2_1.length c2_1)], segX 23 W.heap.size [.int .i64 x0_0, .int .i64 x0_1, .int .i64 x0_2, .int .i64 x0_3, .int .i64 x0_4]] := H
  clear b11_0 b11_1 b12_0 b12_1 b12_2 b12_3 b12_4
  obtain ⟨b13_0, b13_1⟩ := H.c2 (.head _)
  obtain ⟨b14_0, b14_1⟩ := H.c2 (.tail _ (.tail _ (.tail _ (.tail _ (.head _)))))
  obtain ⟨b15_0, b15_1, b15_2, b15_3, b15_4⟩ := H.c5 (.tail _ (.tail _ (.tail _ (.tail _ (.tail _ (.head _))))))
  have HE0 := Lib.hid (H.drewN 1)
  have HK0 := Lib.hid (ten (HE0.out.c5 (.tail _ (.tail _ (.tail _ (.tail _ (.tail _ (.head _))))))) (HE0.out.c2 (.head _)))
  go_wp2_with fail
  go_region_held3 (fun w' => w'.cell? ⟨W.heap.size, 0, none⟩ = some (.int .i64 x0_0) ∧ w'.cell? ⟨W.heap.size, 1, none⟩ = some (.int .i64 x0_1) ∧ w'.cell? ⟨W.heap.size, 2, none⟩ = some (.int .i64 x0_2) ∧ w'.cell? ⟨W.heap.size, 3, none⟩ = some (.int .i64 x0_3) ∧ w'.cell? ⟨W.heap.size, 4, none⟩ = some (.int .i64 x0_4) ∧ w'.cell? ⟨w6.heap.size, 0, none⟩ = some (.int .i64 x2_0) ∧ w'.cell? ⟨w6.heap.size, 1, none⟩ = some (.slice A6_1' l2_1.length c6_1'))
    (first
      | exact HK0.out
      | exact HK1.out
      | exact HK2.out)
    (first
      | (go_at_call_of 10 (Value.int IntKind.i64 x0_0); refine (toLimits_any x0_0 x0_1 x0_2 x0_3 x0_4   _  ).mono ?_; rintro e w7 ⟨rfl, hb⟩; have HX := HE0.out.up hb; clear hb; have HE1 := Lib.hid HX; clear HX; have HK1 := Lib.hid (ten (HE1.out.c5 (.tail _ (.tail _ (.tail _ (.tail _ (.tail _ (.head _))))))) (HE1.out.c2 (.head _))))
      | (go_at_call 18; refine (implPutTc_any x0_0 x0_1 x0_2 x0_3 x0_4 x2_0 _ _ l1 l2_1 _  (HE1.out.slB 5 (.tail _ (.tail _ (.head _)))) (HE1.out.slE HV6_1.out (.tail _ (.head _))) (by omega) ).mono ?_; rw [← HR.out, ← HB0.out]; rintro e w8 ⟨u8, rfl, ho, hb⟩; have HX := HE1.out.moreB ho hb; clear ho hb; have HE2 := Lib.hid HX; clear HX; have HK2 := Lib.hid (ten (HE2.out.c5 (.tail _ (.tail _ (.tail _ (.tail _ (.tail _ (.tail _ (.head _)))))))) (HE2.out.c2 (.tail _ (.head _))))))
  clear H b13_0 b13_1 b14_0 b14_1 b15_0 b15_1 b15_2 b15_3 b15_4
  have H := HE2.out
  clear HE0 HK0 HE1 HK1 HE2 HK2
  obtain ⟨b16_0, b16_1⟩ := H.c2 (.tail _ (.head _))
  obtain ⟨b17_0, b17_1⟩ := H.c2 (.tail _ (.tail _ (.tail _ (.tail _ (.tail _ (.head _))))))
  obtain ⟨b18_0, b18_1, b18_2, b18_3, b18_4⟩ := H.c5 (.tail _ (.tail _ (.tail _ (.tail _ (.tail _ (.tail _ (.head _)))))))
  go_wp2_with fail
  refine (eqByteS_any _ _ R _ (H.slB 5 (.head _)) (H.slB 5 (.tail _ (.tail _ (.tail _ (.tail _ (.head _))))))).mono ?_
  rintro e _ ⟨rfl, d9, rfl⟩
  replace H := H.drewN d9
  clear b16_0 b16_1 b17_0 b17_1 b18_0 b18_1 b18_2 b18_3 b18_4
  obtain ⟨b19_0, b19_1⟩ := H.c2 (.tail _ (.head _))
  obtain ⟨b20_0, b20_1⟩ := H.c2 (.tail _ (.tail _ (.tail _ (.tail _ (.tail _ (.head _))))))
  obtain ⟨b21_0, b21_1, b21_2, b21_3, b21_4⟩ := H.c5 (.tail _ (.tail _ (.tail _ (.tail _ (.tail _ (.tail _ (.head _)))))))
  go_wp2_with fail
  refine (toByteS_any _ l1 _ (hs1.up H.bel) (by omega)).mono ?_
  rintro e w10 ⟨u10, rfl, ho, hb⟩
  replace H := H.moreB ho hb
  clear ho hb
  clear b19_0 b19_1 b20_0 b20_1 b21_0 b21_1 b21_2 b21_3 b21_4
  obtain ⟨b22_0, b22_1⟩ := H.c2 (.tail _ (.tail _ (.head _)))
  obtain ⟨b23_0, b23_1⟩ := H.c2 (.tail _ (.tail _ (.tail _ (.tail _ (.tail _ (.tail _ (.head _)))))))
  obtain ⟨b24_0, b24_1, b24_2, b24_3, b24_4⟩ := H.c5 (.tail _ (.tail _ (.tail _ (.tail _ (.tail _ (.tail _ (.tail _ (.head _))))))))
  go_wp2_with fail
  refine (eqByteS_any _ _ l1 _ (H.slB 5 (.tail _ (.tail _ (.tail _ (.tail _ (.head _)))))) (H.slB 5 (.head _))).mono ?_
  rintro e _ ⟨rfl, d11, rfl⟩
  replace H := H.drewN d11
  replace H := H.sub (qs := [segB 5 u8 R, segX 33 w6.heap.size [.int .i64 x2_0, (.slice A6_1' l2_1.length c6_1')], segE (.slice A6_1' l2_1.length c6_1') vs6_1 l2_1, segB 5 u5 l1, segB 5 u4 R, segX 26 (W.heap.size + 1) [.int .i64 x2_0, (.slice A2_1 l2_1.length c2_1)], segX 23 W.heap.size [.int .i64 x0_0, .int .i64 x0_1, .int .i64 x0_2, .int .i64 x0_3, .int .i64 x0_4]]) (.cons _ (.cons_cons _ (.cons_cons _ (.cons_cons _ (.cons_cons _ (.cons_cons _ (.cons_cons _ (.cons_cons _ .slnil))))))))
  clear b22_0 b22_1 b23_0 b23_1 b24_0 b24_1 b24_2 b24_3 b24_4
  obtain ⟨b25_0, b25_1⟩ := H.c2 (.tail _ (.head _))
  obtain ⟨b26_0, b26_1⟩ := H.c2 (.tail _ (.tail _ (.tail _ (.tail _ (.tail _ (.head _))))))
  obtain ⟨b27_0, b27_1, b27_2, b27_3, b27_4⟩ := H.c5 (.tail _ (.tail _ (.tail _ (.tail _ (.tail _ (.tail _ (.head _)))))))
  have HE0 := Lib.hid (H.drewN 1)
  have HK0 := Lib.hid (ten2 (HE0.out.c2 (.tail _ (.head _))) (HE0.out.c2 (.tail _ (.tail _ (.tail _ (.tail _ (.tail _ (.head _))))))))
  go_wp2_with fail
  go_region_held3 (fun w' => w'.cell? ⟨w6.heap.size, 0, none⟩ = some (.int .i64 x2_0) ∧ w'.cell? ⟨w6.heap.size, 1, none⟩ = some (.slice A6_1' l2_1.length c6_1') ∧ w'.cell? ⟨W.heap.size + 1, 0, none⟩ = some (.int .i64 x2_0) ∧ w'.cell? ⟨W.heap.size + 1, 1, none⟩ = some (.slice A2_1 l2_1.length c2_1))
    (first
      | exact HK0.out
      | exact HK1.out
      | exact HK2.out)
    (first
      | (go_at_call_of 11 (Value.int IntKind.i64 x2_0); refine (toTc_any x2_0 _ l2_1 _ (hs2_1.up HE0.out.bel) hL2_1 hN2_1).mono ?_; rintro e w12 ⟨u12_1, vs12_1, rfl, hv12_1, K⟩; have HV12_1 := Lib.hid hv12_1; obtain ⟨A12_1', c12_1', rfl⟩ := K.openE hv12_1 (.head _); clear hv12_1; have HT := HE0.out.moreF K; clear K; have HX : InvF W w12 [segE (.slice A12_1' l2_1.length c12_1') vs12_1 l2_1, segB 5 u8 R, segX 33 w6.heap.size [.int .i64 x2_0, (.slice A6_1' l2_1.length c6_1')], segE (.slice A6_1' l2_1.length c6_1') vs6_1 l2_1, segB 5 u5 l1, segB 5 u4 R, segX 26 (W.heap.size + 1) [.int .i64 x2_0, (.slice A2_1 l2_1.length c2_1)], segX 23 W.heap.size [.int .i64 x0_0, .int .i64 x0_1, .int .i64 x0_2, .int .i64 x0_3, .int .i64 x0_4]] := HT; clear HT; have HE1 := Lib.hid HX; clear HX; have HK1 := Lib.hid (ten2 (HE1.out.c2 (.tail _ (.tail _ (.head _)))) (HE1.out.c2 (.tail _ (.tail _ (.tail _ (.tail _ (.tail _ (.tail _ (.head _))))))))))
      | (go_at_call 13; refine (eqTc_any x2_0 _ _ l2_1 _ (HE1.out.slE HV6_1.out (.tail _ (.tail _ (.tail _ (.head _))))) (HE1.out.slE HV12_1.out (.head _))).mono ?_; rintro e w13 ⟨rfl, hb⟩; have HX := HE1.out.up hb; clear hb; have HE2 := Lib.hid HX; clear HX; have HK2 := Lib.hid (ten2 (HE2.out.c2 (.tail _ (.tail _ (.head _)))) (HE2.out.c2 (.tail _ (.tail _ (.tail _ (.tail _ (.tail _ (.tail _ (.head _)))))))))))
  clear H b25_0 b25_1 b26_0 b26_1 b27_0 b27_1 b27_2 b27_3 b27_4
  have H := HE2.out
  clear HE0 HK0 HE1 HK1 HE2 HK2
  replace H := H.sub (qs := [segB 5 u8 R, segX 33 w6.heap.size [.int .i64 x2_0, (.slice A6_1' l2_1.length c6_1')], segE (.slice A6_1' l2_1.length c6_1') vs6_1 l2_1, segB 5 u5 l1, segB 5 u4 R, segX 26 (W.heap.size + 1) [.int .i64 x2_0, (.slice A2_1 l2_1.length c2_1)], segX 23 W.heap.size [.int .i64 x0_0, .int .i64 x0_1, .int .i64 x0_2, .int .i64 x0_3, .int .i64 x0_4]]) (.cons _ (.cons_cons _ (.cons_cons _ (.cons_cons _ (.cons_cons _ (.cons_cons _ (.cons_cons _ (.cons_cons _ .slnil))))))))
  replace H : InvF W _ [segB 5 u5 l1, segB 5 u8 R, segX 33 w6.heap.size [.int .i64 x2_0, (.slice A6_1' l2_1.length c6_1')], segE (.slice A6_1' l2_1.length c6_1') vs6_1 l2_1, segB 5 u4 R, segX 26 (W.heap.size + 1) [.int .i64 x2_0, (.slice A2_1 l2_1.length c2_1)], segX 23 W.heap.size [.int .i64 x0_0, .int .i64 x0_1, .int .i64 x0_2, .int .i64 x0_3, .int .i64 x0_4]] := H.front 3 rfl
  obtain ⟨b28_0, b28_1⟩ := H.c2 (.tail _ (.tail _ (.head _)))
  obtain ⟨b29_0, b29_1⟩ := H.c2 (.tail _ (.tail _ (.tail _ (.tail _ (.tail _ (.head _))))))
  obtain ⟨b30_0, b30_1, b30_2, b30_3, b30_4⟩ := H.c5 (.tail _ (.tail _ (.tail _ (.tail _ (.tail _ (.tail _ (.head _)))))))
  go_wp2_with fail
  refine (markByteS_z _ l1 (1) _ _ _ (H.ownB 5 (.head _)) rfl (by omega) (by omega)).mono ?_
  rintro e w14 ⟨rfl, ho, hg⟩
  replace H := H.wroteB ho hg
  clear ho hg
  replace H : InvF W _ [segE (.slice A6_1' l2_1.length c6_1') vs6_1 l2_1, segB 5 u5 (marks (1) l1.length), segB 5 u8 R, segX 33 w6.heap.size [.int .i64 x2_0, (.slice A6_1' l2_1.length c6_1')], segB 5 u4 R, segX 26 (W.heap.size + 1) [.int .i64 x2_0, (.slice A2_1 l2_1.length c2_1)], segX 23 W.heap.size [.int .i64 x0_0, .int .i64 x0_1, .int .i64 x0_2, .int .i64 x0_3, .int .i64 x0_4]] := H.front 3 rfl
  clear b28_0 b28_1 b29_0 b29_1 b30_0 b30_1 b30_2 b30_3 b30_4
  obtain ⟨b31_0, b31_1⟩ := H.c2 (.tail _ (.tail _ (.tail _ (.head _))))
  obtain ⟨b32_0, b32_1⟩ := H.c2 (.tail _ (.tail _ (.tail _ (.tail _ (.tail _ (.head _))))))
  obtain ⟨b33_0, b33_1, b33_2, b33_3, b33_4⟩ := H.c5 (.tail _ (.tail _ (.tail _ (.tail _ (.tail _ (.tail _ (.head _)))))))
  go_wp2_with fail
  refine (markTc_z x2_0 W _ _ _ l2_1 _ (1 + l1.length) _ HV6_1.out H (by simp) (by omega) (by omega)).mono ?_
  rintro e w15 ⟨rfl, K⟩
  replace H := K
  clear K
  have HV6_1m15 : Hid (vs6_1.length = (marksE (1 + l1.length) l2_1).length) := Lib.hid (by rw [marksE_length]; exact HV6_1.out)
  replace H : InvF W w15 [segE (.slice A6_1' l2_1.length c6_1') vs6_1 (marksE (1 + l1.length) l2_1), segB 5 u5 (marks (1) l1.length), segB 5 u8 R, segX 33 w6.heap.size [.int .i64 x2_0, (.slice A6_1' l2_1.length c6_1')], segB 5 u4 R, segX 26 (W.heap.size + 1) [.int .i64 x2_0, (.slice A2_1 l2_1.length c2_1)], segX 23 W.heap.size [.int .i64 x0_0, .int .i64 x0_1, .int .i64 x0_2, .int .i64 x0_3, .int .i64 x0_4]] := H
  have hltk : ¬ ((1 : Int) + (l1.length : Int) + (mkE l2_1 : Int) < 0) := by omega
  clear b31_0 b31_1 b32_0 b32_1 b33_0 b33_1 b33_2 b33_3 b33_4
  obtain ⟨b34_0, b34_1⟩ := H.c2 (.tail _ (.tail _ (.tail _ (.head _))))
  obtain ⟨b35_0, b35_1⟩ := H.c2 (.tail _ (.tail _ (.tail _ (.tail _ (.tail _ (.head _))))))
  obtain ⟨b36_0, b36_1, b36_2, b36_3, b36_4⟩ := H.c5 (.tail _ (.tail _ (.tail _ (.tail _ (.tail _ (.tail _ (.head _)))))))
  go_wp2_with fail
  refine (eqByteS_any _ _ R _ (H.slB 5 (.tail _ (.tail _ (.head _)))) (H.slB 5 (.tail _ (.tail _ (.tail _ (.tail _ (.head _))))))).mono ?_
  rintro e _ ⟨rfl, d16, rfl⟩
  replace H := H.drewN d16
  replace H := H.sub (qs := [segB 5 u8 R, segB 5 u4 R, segX 26 (W.heap.size + 1) [.int .i64 x2_0, (.slice A2_1 l2_1.length c2_1)], segX 23 W.heap.size [.int .i64 x0_0, .int .i64 x0_1, .int .i64 x0_2, .int .i64 x0_3, .int .i64 x0_4]]) (.cons _ (.cons _ (.cons_cons _ (.cons _ (.cons_cons _ (.cons_cons _ (.cons_cons _ .slnil)))))))
  clear b34_0 b34_1 b35_0 b35_1 b36_0 b36_1 b36_2 b36_3 b36_4
  obtain ⟨b37_0, b37_1⟩ := H.c2 (.tail _ (.tail _ (.head _)))
  obtain ⟨b38_0, b38_1, b38_2, b38_3, b38_4⟩ := H.c5 (.tail _ (.tail _ (.tail _ (.head _))))
  go_wp2_with fail
  refine (markByteS_z _ R (1) _ _ _ (H.ownB 5 (.head _)) rfl (by omega) (by omega)).mono ?_
  rintro e w17 ⟨rfl, ho, hg⟩
  replace H := H.wroteB ho hg
  clear ho hg
  clear b37_0 b37_1 b38_0 b38_1 b38_2 b38_3 b38_4
  obtain ⟨b39_0, b39_1⟩ := H.c2 (.tail _ (.tail _ (.head _)))
  obtain ⟨b40_0, b40_1, b40_2, b40_3, b40_4⟩ := H.c5 (.tail _ (.tail _ (.tail _ (.head _))))
  go_wp2_with fail
  refine (heldByteS_z _ 1 R.length _ _ (H.slB 5 (.head _)) rfl (by omega) (by omega)).mono ?_
  rintro e _ ⟨rfl, d18, rfl⟩
  replace H := H.drewN d18
  have hltL : ¬ ((1 : Int) + (R.length : Int) < 0) := by omega
  have hneL : ((1 : Int) + (R.length : Int) != 1 + (R.length : Int)) = false := by simp
  clear b39_0 b39_1 b40_0 b40_1 b40_2 b40_3 b40_4
  obtain ⟨b41_0, b41_1⟩ := H.c2 (.tail _ (.tail _ (.head _)))
  obtain ⟨b42_0, b42_1, b42_2, b42_3, b42_4⟩ := H.c5 (.tail _ (.tail _ (.tail _ (.head _))))
  have HE0 := Lib.hid (H.drewN 1)
  have HK0 := Lib.hid (ten (HE0.out.c5 (.tail _ (.tail _ (.tail _ (.head _))))) (HE0.out.c2 (.tail _ (.tail _ (.head _)))))
  go_wp2_with fail
  go_region_held3 (fun w' => w'.cell? ⟨W.heap.size, 0, none⟩ = some (.int .i64 x0_0) ∧ w'.cell? ⟨W.heap.size, 1, none⟩ = some (.int .i64 x0_1) ∧ w'.cell? ⟨W.heap.size, 2, none⟩ = some (.int .i64 x0_2) ∧ w'.cell? ⟨W.heap.size, 3, none⟩ = some (.int .i64 x0_3) ∧ w'.cell? ⟨W.heap.size, 4, none⟩ = some (.int .i64 x0_4) ∧ w'.cell? ⟨W.heap.size + 1, 0, none⟩ = some (.int .i64 x2_0) ∧ w'.cell? ⟨W.heap.size + 1, 1, none⟩ = some (.slice A2_1 l2_1.length c2_1))
    (first
      | exact HK0.out
      | exact HK1.out
      | exact HK2.out
      | exact HK3.out
      | exact HK4.out)
    (first
      | (go_at_call_of 10 (Value.int IntKind.i64 x0_0); refine (toLimits_any x0_0 x0_1 x0_2 x0_3 x0_4   _  ).mono ?_; rintro e w19 ⟨rfl, hb⟩; have HX := HE0.out.up hb; clear hb; have HE1 := Lib.hid HX; clear HX; have HK1 := Lib.hid (ten (HE1.out.c5 (.tail _ (.tail _ (.tail _ (.head _))))) (HE1.out.c2 (.tail _ (.tail _ (.head _))))))
      | (go_at_call 17; refine (toByteS_any _ l1 _ (hs1.up HE1.out.bel) (by omega)).mono ?_; rintro e w20 ⟨u20, rfl, ho, hb⟩; have HX := HE1.out.moreB ho hb; clear ho hb; have HE2 := Lib.hid HX; clear HX; have HK2 := Lib.hid (ten (HE2.out.c5 (.tail _ (.tail _ (.tail _ (.tail _ (.head _)))))) (HE2.out.c2 (.tail _ (.tail _ (.tail _ (.head _)))))))
      | (go_at_call_of 11 (Value.int IntKind.i64 x2_0); refine (toTc_any x2_0 _ l2_1 _ (hs2_1.up HE2.out.bel) hL2_1 hN2_1).mono ?_; rintro e w21 ⟨u21_1, vs21_1, rfl, hv21_1, K⟩; have HV21_1 := Lib.hid hv21_1; obtain ⟨A21_1', c21_1', rfl⟩ := K.openE hv21_1 (.head _); clear hv21_1; have HT := HE2.out.moreF K; clear K; have HX : InvF W w21 [segE (.slice A21_1' l2_1.length c21_1') vs21_1 l2_1, segB 5 u20 l1, segB 5 u8 (marks (1) R.length), segB 5 u4 R, segX 26 (W.heap.size + 1) [.int .i64 x2_0, (.slice A2_1 l2_1.length c2_1)], segX 23 W.heap.size [.int .i64 x0_0, .int .i64 x0_1, .int .i64 x0_2, .int .i64 x0_3, .int .i64 x0_4]] := HT; clear HT; have HE3 := Lib.hid HX; clear HX; have HK3 := Lib.hid (ten (HE3.out.c5 (.tail _ (.tail _ (.tail _ (.tail _ (.tail _ (.head _))))))) (HE3.out.c2 (.tail _ (.tail _ (.tail _ (.tail _ (.head _))))))))
      | (go_at_call 18; refine (implPutTc_any x0_0 x0_1 x0_2 x0_3 x0_4 x2_0 _ _ l1 l2_1 _  (HE3.out.slB 5 (.tail _ (.head _))) (HE3.out.slE HV21_1.out (.head _)) (by omega) ).mono ?_; rw [← HR.out, ← HB0.out]; rintro e w22 ⟨u22, rfl, ho, hb⟩; have HX := HE3.out.moreB ho hb; clear ho hb; have HE4 := Lib.hid HX; clear HX; have HK4 := Lib.hid (ten (HE4.out.c5 (.tail _ (.tail _ (.tail _ (.tail _ (.tail _ (.tail _ (.head _)))))))) (HE4.out.c2 (.tail _ (.tail _ (.tail _ (.tail _ (.tail _ (.head _))))))))))
  clear H b41_0 b41_1 b42_0 b42_1 b42_2 b42_3 b42_4
  have H := HE4.out
  clear HE0 HK0 HE1 HK1 HE2 HK2 HE3 HK3 HE4 HK4
  obtain ⟨b43_0, b43_1⟩ := H.c2 (.tail _ (.tail _ (.tail _ (.tail _ (.tail _ (.head _))))))
  obtain ⟨b44_0, b44_1, b44_2, b44_3, b44_4⟩ := H.c5 (.tail _ (.tail _ (.tail _ (.tail _ (.tail _ (.tail _ (.head _)))))))
  go_wp2_with fail
  refine (eqByteS_any _ _ R _ (H.slB 5 (.head _)) (H.slB 5 (.tail _ (.tail _ (.tail _ (.tail _ (.head _))))))).mono ?_
  rintro e _ ⟨rfl, d23, rfl⟩
  replace H := H.drewN d23
  clear b43_0 b43_1 b44_0 b44_1 b44_2 b44_3 b44_4
  obtain ⟨b45_0, b45_1⟩ := H.c2 (.tail _ (.tail _ (.tail _ (.tail _ (.tail _ (.head _))))))
  obtain ⟨b46_0, b46_1, b46_2, b46_3, b46_4⟩ := H.c5 (.tail _ (.tail _ (.tail _ (.tail _ (.tail _ (.tail _ (.head _)))))))
  go_wp2_with fail
  refine (heldByteS_z _ 1 R.length _ _ (H.slB 5 (.tail _ (.tail _ (.tail _ (.head _))))) rfl (by omega) (by omega)).mono ?_
  rintro e _ ⟨rfl, d24, rfl⟩
  replace H := H.drewN d24
  clear b45_0 b45_1 b46_0 b46_1 b46_2 b46_3 b46_4
  obtain ⟨b47_0, b47_1⟩ := H.c2 (.tail _ (.tail _ (.tail _ (.tail _ (.tail _ (.head _))))))
  obtain ⟨b48_0, b48_1, b48_2, b48_3, b48_4⟩ := H.c5 (.tail _ (.tail _ (.tail _ (.tail _ (.tail _ (.tail _ (.head _)))))))
  go_wp2_with fail
  go_ret
  exact ⟨rfl, by have hfin := H.bel; simpa using hfin⟩
end Go.Proofs.Ytickneafppbegaa
