/- The walk of the exact law of TcSame: for every argument the law answers true and leaves all memory that was there as it was. -/
import Derived.Test.YtickneafppbegaaTc
import Derived.Test.YtickneafppbegaaTcSame
import Derived.Deep.RegionHeld3
namespace Go.Proofs.Ytickneafppbegaa
open Go.ChangeShapes Go.WideShapes Go.ChangeAt Go.RowKit

set_option maxRecDepth 100000 in
set_option maxHeartbeats 8000000 in
theorem TcSame_walk (x0_0 : Int) (v0_1 : Value) (l0_1 : List Et) (x1_0 : Int) (v1_1 : Value) (l1_1 : List Et) (W : World) (h0_1 : SlE W W.heap.size v0_1 l0_1) (h1_1 : SlE W W.heap.size v1_1 l1_1)  :
    Calls Try.prog 4 #[.agg #[.int .i64 x0_0, v0_1], .agg #[.int .i64 x1_0, v1_1]] W (Yes W) := by
  have hs0_1 := h0_1
  obtain ⟨A0_1, c0_1, rfl, p0_1, q0_1, r0_1, z0_1⟩ := h0_1
  unfold maxLen at q0_1
  clear r0_1 z0_1
  have hs1_1 := h1_1
  obtain ⟨A1_1, c1_1, rfl, p1_1, q1_1, r1_1, z1_1⟩ := h1_1
  unfold maxLen at q1_1
  clear r1_1 z1_1
  by_cases hbig : (1048576 : Int) < (l0_1.length : Int) + (volE l0_1 : Int)
  · have HZ0 : Hid (szTZ l0_1 (1048576 : Int) = -1) := Lib.hid (by exact szTZ_big hbig)
    clear hbig
    have H : InvF W W [] := InvF.start W
    replace H := H.newG 26 #[.int .i64 x0_0, .slice A0_1 l0_1.length c0_1] (W.heap.size)
    replace H := H.newG 26 #[.int .i64 x1_0, .slice A1_1 l1_1.length c1_1] (W.heap.size + 1)
    replace H : InvF W _ [segX 26 (W.heap.size + 1) [.int .i64 x1_0, (.slice A1_1 l1_1.length c1_1)], segX 26 W.heap.size [.int .i64 x0_0, (.slice A0_1 l0_1.length c0_1)]] := H
    go_enter Try.func4, Try.ntmps4
    obtain ⟨b1_0, b1_1⟩ := H.c2 (.head _)
    obtain ⟨b2_0, b2_1⟩ := H.c2 (.tail _ (.head _))
    go_wp2_with fail
    refine (szTc_any x0_0 _ l0_1 1048576 _ (hs0_1.up H.bel) (by omega) (by omega)).mono ?_
    rw [HZ0.out]
    rintro e wz0 ⟨rfl, hb⟩
    replace H := H.up hb
    clear hb
    clear b1_0 b1_1 b2_0 b2_1
    obtain ⟨b3_0, b3_1⟩ := H.c2 (.head _)
    obtain ⟨b4_0, b4_1⟩ := H.c2 (.tail _ (.head _))
    go_wp2
    go_ret
    exact ⟨rfl, H.bel⟩
  obtain ⟨zz0, hz⟩ : ∃ z, z = (1048576 : Int) - ((l0_1.length : Int) + (volE l0_1 : Int)) := ⟨_, rfl⟩
  have HZ0 : Hid (szTZ l0_1 (1048576 : Int) = zz0) := Lib.hid (by rw [hz]; exact szTZ_ok hbig)
  have hzlo0 : 0 ≤ zz0 := by omega
  have hzhi0 : zz0 ≤ 1048576 := by omega
  have hzn0 : ¬ (zz0 < 0) := by omega
  have hL0_1 : l0_1.length ≤ 1048576 := by omega
  have hN0_1 : volE l0_1 ≤ 1048576 := by omega
  have hM0_1 : mkE l0_1 ≤ 4194304 := by unfold mkE; omega
  have hT0 : l0_1.length + volE l0_1 ≤ 1048576 := by omega
  clear hbig hz
  by_cases hbig : zz0 < (l1_1.length : Int) + (volE l1_1 : Int)
  · have HZ1 : Hid (szTZ l1_1 zz0 = -1) := Lib.hid (by exact szTZ_big hbig)
    clear hbig
    have H : InvF W W [] := InvF.start W
    replace H := H.newG 26 #[.int .i64 x0_0, .slice A0_1 l0_1.length c0_1] (W.heap.size)
    replace H := H.newG 26 #[.int .i64 x1_0, .slice A1_1 l1_1.length c1_1] (W.heap.size + 1)
    replace H : InvF W _ [segX 26 (W.heap.size + 1) [.int .i64 x1_0, (.slice A1_1 l1_1.length c1_1)], segX 26 W.heap.size [.int .i64 x0_0, (.slice A0_1 l0_1.length c0_1)]] := H
    go_enter Try.func4, Try.ntmps4
    obtain ⟨b5_0, b5_1⟩ := H.c2 (.head _)
    obtain ⟨b6_0, b6_1⟩ := H.c2 (.tail _ (.head _))
    go_wp2_with fail
    refine (szTc_any x0_0 _ l0_1 1048576 _ (hs0_1.up H.bel) (by omega) (by omega)).mono ?_
    rw [HZ0.out]
    rintro e wz0 ⟨rfl, hb⟩
    replace H := H.up hb
    clear hb
    clear b5_0 b5_1 b6_0 b6_1
    obtain ⟨b7_0, b7_1⟩ := H.c2 (.head _)
    obtain ⟨b8_0, b8_1⟩ := H.c2 (.tail _ (.head _))
    go_wp2_with fail
    refine (szTc_any x1_0 _ l1_1 zz0 _ (hs1_1.up H.bel) (by omega) (by omega)).mono ?_
    rw [HZ1.out]
    rintro e wz1 ⟨rfl, hb⟩
    replace H := H.up hb
    clear hb
    clear b7_0 b7_1 b8_0 b8_1
    obtain ⟨b9_0, b9_1⟩ := H.c2 (.head _)
    obtain ⟨b10_0, b10_1⟩ := H.c2 (.tail _ (.head _))
    go_wp2
    go_ret
    exact ⟨rfl, H.bel⟩
  obtain ⟨zz1, hz⟩ : ∃ z, z = zz0 - ((l1_1.length : Int) + (volE l1_1 : Int)) := ⟨_, rfl⟩
  have HZ1 : Hid (szTZ l1_1 zz0 = zz1) := Lib.hid (by rw [hz]; exact szTZ_ok hbig)
  have hzlo1 : 0 ≤ zz1 := by omega
  have hzhi1 : zz1 ≤ 1048576 := by omega
  have hzn1 : ¬ (zz1 < 0) := by omega
  have hL1_1 : l1_1.length ≤ 1048576 := by omega
  have hN1_1 : volE l1_1 ≤ 1048576 := by omega
  have hM1_1 : mkE l1_1 ≤ 4194304 := by unfold mkE; omega
  have hT1 : l1_1.length + volE l1_1 ≤ 1048576 := by omega
  clear hbig hz
  obtain ⟨b0, hB⟩ : ∃ b, b = sameTB x0_0 x1_0 l0_1 l1_1 := ⟨_, rfl⟩
  have HB0 := Lib.hid hB
  clear hB
  have hbb0 : (b0 != b0) = false := by simp
  have H : InvF W W [] := InvF.start W
  replace H := H.newG 26 #[.int .i64 x0_0, .slice A0_1 l0_1.length c0_1] (W.heap.size)
  replace H := H.newG 26 #[.int .i64 x1_0, .slice A1_1 l1_1.length c1_1] (W.heap.size + 1)
  replace H : InvF W _ [segX 26 (W.heap.size + 1) [.int .i64 x1_0, (.slice A1_1 l1_1.length c1_1)], segX 26 W.heap.size [.int .i64 x0_0, (.slice A0_1 l0_1.length c0_1)]] := H
  go_enter Try.func4, Try.ntmps4
  obtain ⟨b11_0, b11_1⟩ := H.c2 (.head _)
  obtain ⟨b12_0, b12_1⟩ := H.c2 (.tail _ (.head _))
  go_wp2_with fail
  refine (szTc_any x0_0 _ l0_1 1048576 _ (hs0_1.up H.bel) (by omega) (by omega)).mono ?_
  rw [HZ0.out]
  rintro e wz0 ⟨rfl, hb⟩
  replace H := H.up hb
  clear hb
  clear b11_0 b11_1 b12_0 b12_1
  obtain ⟨b13_0, b13_1⟩ := H.c2 (.head _)
  obtain ⟨b14_0, b14_1⟩ := H.c2 (.tail _ (.head _))
  go_wp2_with fail
  refine (szTc_any x1_0 _ l1_1 zz0 _ (hs1_1.up H.bel) (by omega) (by omega)).mono ?_
  rw [HZ1.out]
  rintro e wz1 ⟨rfl, hb⟩
  replace H := H.up hb
  clear hb
  clear b13_0 b13_1 b14_0 b14_1
  obtain ⟨b15_0, b15_1⟩ := H.c2 (.head _)
  obtain ⟨b16_0, b16_1⟩ := H.c2 (.tail _ (.head _))
  have HE0 := Lib.hid (H.drewN 1)
  have HK0 := Lib.hid (ten2 (HE0.out.c2 (.tail _ (.head _))) (HE0.out.c2 (.head _)))
  go_wp2_with fail
  go_region_held3 (fun w' => w'.cell? ⟨W.heap.size, 0, none⟩ = some (.int .i64 x0_0) ∧ w'.cell? ⟨W.heap.size, 1, none⟩ = some (.slice A0_1 l0_1.length c0_1) ∧ w'.cell? ⟨W.heap.size + 1, 0, none⟩ = some (.int .i64 x1_0) ∧ w'.cell? ⟨W.heap.size + 1, 1, none⟩ = some (.slice A1_1 l1_1.length c1_1))
    (first
      | exact HK0.out
      | exact HK1.out
      | exact HK2.out
      | exact HK3.out)
    (first
      | (go_at_call_of 11 (Value.int IntKind.i64 x0_0); refine (toTc_any x0_0 _ l0_1 _ (hs0_1.up HE0.out.bel) hL0_1 hN0_1).mono ?_; rintro e w1 ⟨u1_1, vs1_1, rfl, hv1_1, K⟩; have HV1_1 := Lib.hid hv1_1; obtain ⟨A1_1', c1_1', rfl⟩ := K.openE hv1_1 (.head _); clear hv1_1; have HT := HE0.out.moreF K; clear K; have HX : InvF W w1 [segE (.slice A1_1' l0_1.length c1_1') vs1_1 l0_1, segX 26 (W.heap.size + 1) [.int .i64 x1_0, (.slice A1_1 l1_1.length c1_1)], segX 26 W.heap.size [.int .i64 x0_0, (.slice A0_1 l0_1.length c0_1)]] := HT; clear HT; have HE1 := Lib.hid HX; clear HX; have HK1 := Lib.hid (ten2 (HE1.out.c2 (.tail _ (.tail _ (.head _)))) (HE1.out.c2 (.tail _ (.head _)))))
      | (go_at_call_of 11 (Value.int IntKind.i64 x1_0); refine (toTc_any x1_0 _ l1_1 _ (hs1_1.up HE1.out.bel) hL1_1 hN1_1).mono ?_; rintro e w2 ⟨u2_1, vs2_1, rfl, hv2_1, K⟩; have HV2_1 := Lib.hid hv2_1; obtain ⟨A2_1', c2_1', rfl⟩ := K.openE hv2_1 (.head _); clear hv2_1; have HT := HE1.out.moreF K; clear K; have HX : InvF W w2 [segE (.slice A2_1' l1_1.length c2_1') vs2_1 l1_1, segE (.slice A1_1' l0_1.length c1_1') vs1_1 l0_1, segX 26 (W.heap.size + 1) [.int .i64 x1_0, (.slice A1_1 l1_1.length c1_1)], segX 26 W.heap.size [.int .i64 x0_0, (.slice A0_1 l0_1.length c0_1)]] := HT; clear HT; have HE2 := Lib.hid HX; clear HX; have HK2 := Lib.hid (ten2 (HE2.out.c2 (.tail _ (.tail _ (.tail _ (.head _))))) (HE2.out.c2 (.tail _ (.tail _ (.head _))))))
      | (go_at_call 14; refine (specTcSame_any x0_0 x1_0 _ _ l0_1 l1_1 _ (HE2.out.slE HV1_1.out (.tail _ (.head _))) (HE2.out.slE HV2_1.out (.head _))  ).mono ?_; rw [← HB0.out]; rintro e w3 ⟨rfl, hb⟩; have HX := HE2.out.up hb; clear hb; have HE3 := Lib.hid HX; clear HX; have HK3 := Lib.hid (ten2 (HE3.out.c2 (.tail _ (.tail _ (.tail _ (.head _))))) (HE3.out.c2 (.tail _ (.tail _ (.head _)))))))
  clear H b15_0 b15_1 b16_0 b16_1
  have H := HE3.out
  clear HE0 HK0 HE1 HK1 HE2 HK2 HE3 HK3
  replace H := H.sub (qs := [segX 26 (W.heap.size + 1) [.int .i64 x1_0, (.slice A1_1 l1_1.length c1_1)], segX 26 W.heap.size [.int .i64 x0_0, (.slice A0_1 l0_1.length c0_1)]]) (.cons _ (.cons _ (.cons_cons _ (.cons_cons _ .slnil))))
  obtain ⟨b17_0, b17_1⟩ := H.c2 (.head _)
  obtain ⟨b18_0, b18_1⟩ := H.c2 (.tail _ (.head _))
  go_wp2_with fail
  refine (toTc_any x0_0 _ l0_1 _ (hs0_1.up H.bel) hL0_1 hN0_1).mono ?_
  rintro e w4 ⟨u4_1, vs4_1, rfl, hv4_1, K⟩
  have HV4_1 := Lib.hid hv4_1
  obtain ⟨A4_1', c4_1', rfl⟩ := K.openE hv4_1 (.head _)
  clear hv4_1
  have HT := H.moreF K
  clear K
  replace H : InvF W w4 [segE (.slice A4_1' l0_1.length c4_1') vs4_1 l0_1, segX 26 (W.heap.size + 1) [.int .i64 x1_0, (.slice A1_1 l1_1.length c1_1)], segX 26 W.heap.size [.int .i64 x0_0, (.slice A0_1 l0_1.length c0_1)]] := HT
  clear HT
  replace H := H.newX 33 #[.int .i64 x0_0, (.slice A4_1' l0_1.length c4_1')]
  replace H : InvF W _ [segX 33 w4.heap.size [.int .i64 x0_0, (.slice A4_1' l0_1.length c4_1')], segE (.slice A4_1' l0_1.length c4_1') vs4_1 l0_1, segX 26 (W.heap.size + 1) [.int .i64 x1_0, (.slice A1_1 l1_1.length c1_1)], segX 26 W.heap.size [.int .i64 x0_0, (.slice A0_1 l0_1.length c0_1)]] := H
  clear b17_0 b17_1 b18_0 b18_1
  obtain ⟨b19_0, b19_1⟩ := H.c2 (.head _)
  obtain ⟨b20_0, b20_1⟩ := H.c2 (.tail _ (.tail _ (.head _)))
  obtain ⟨b21_0, b21_1⟩ := H.c2 (.tail _ (.tail _ (.tail _ (.head _))))
  go_wp2_with fail
  refine (toTc_any x1_0 _ l1_1 _ (hs1_1.up H.bel) hL1_1 hN1_1).mono ?_
  rintro e w5 ⟨u5_1, vs5_1, rfl, hv5_1, K⟩
  have HV5_1 := Lib.hid hv5_1
  obtain ⟨A5_1', c5_1', rfl⟩ := K.openE hv5_1 (.head _)
  clear hv5_1
  have HT := H.moreF K
  clear K
  replace H : InvF W w5 [segE (.slice A5_1' l1_1.length c5_1') vs5_1 l1_1, segX 33 w4.heap.size [.int .i64 x0_0, (.slice A4_1' l0_1.length c4_1')], segE (.slice A4_1' l0_1.length c4_1') vs4_1 l0_1, segX 26 (W.heap.size + 1) [.int .i64 x1_0, (.slice A1_1 l1_1.length c1_1)], segX 26 W.heap.size [.int .i64 x0_0, (.slice A0_1 l0_1.length c0_1)]] := HT
  clear HT
  replace H := H.newX 33 #[.int .i64 x1_0, (.slice A5_1' l1_1.length c5_1')]
  replace H : InvF W _ [segX 33 w5.heap.size [.int .i64 x1_0, (.slice A5_1' l1_1.length c5_1')], segE (.slice A5_1' l1_1.length c5_1') vs5_1 l1_1, segX 33 w4.heap.size [.int .i64 x0_0, (.slice A4_1' l0_1.length c4_1')], segE (.slice A4_1' l0_1.length c4_1') vs4_1 l0_1, segX 26 (W.heap.size + 1) [.int .i64 x1_0, (.slice A1_1 l1_1.length c1_1)], segX 26 W.heap.size [.int .i64 x0_0, (.slice A0_1 l0_1.length c0_1)]] := H
  clear b19_0 b19_1 b20_0 b20_1 b21_0 b21_1
  obtain ⟨b22_0, b22_1⟩ := H.c2 (.head _)
  obtain ⟨b23_0, b23_1⟩ := H.c2 (.tail _ (.tail _ (.head _)))
  obtain ⟨b24_0, b24_1⟩ := H.c2 (.tail _ (.tail _ (.tail _ (.tail _ (.head _)))))
  obtain ⟨b25_0, b25_1⟩ := H.c2 (.tail _ (.tail _ (.tail _ (.tail _ (.tail _ (.head _))))))
  go_wp2_with fail
  refine (implTcSame_any x0_0 x1_0 _ _ l0_1 l1_1 _ (H.slE HV4_1.out (.tail _ (.tail _ (.tail _ (.head _))))) (H.slE HV5_1.out (.tail _ (.head _)))  ).mono ?_
  rw [← HB0.out]
  rintro e w6 ⟨rfl, hb⟩
  replace H := H.up hb
  clear hb
  clear b22_0 b22_1 b23_0 b23_1 b24_0 b24_1 b25_0 b25_1
  obtain ⟨b26_0, b26_1⟩ := H.c2 (.head _)
  obtain ⟨b27_0, b27_1⟩ := H.c2 (.tail _ (.tail _ (.head _)))
  obtain ⟨b28_0, b28_1⟩ := H.c2 (.tail _ (.tail _ (.tail _ (.tail _ (.head _)))))
  obtain ⟨b29_0, b29_1⟩ := H.c2 (.tail _ (.tail _ (.tail _ (.tail _ (.tail _ (.head _))))))
  have HE0 := Lib.hid (H.drewN 1)
  have HK0 := Lib.hid (ten2 (HE0.out.c2 (.tail _ (.tail _ (.head _)))) (HE0.out.c2 (.tail _ (.tail _ (.tail _ (.tail _ (.tail _ (.head _))))))))
  go_wp2_with fail
  go_region_held3 (fun w' => w'.cell? ⟨w4.heap.size, 0, none⟩ = some (.int .i64 x0_0) ∧ w'.cell? ⟨w4.heap.size, 1, none⟩ = some (.slice A4_1' l0_1.length c4_1') ∧ w'.cell? ⟨W.heap.size, 0, none⟩ = some (.int .i64 x0_0) ∧ w'.cell? ⟨W.heap.size, 1, none⟩ = some (.slice A0_1 l0_1.length c0_1))
    (first
      | exact HK0.out
      | exact HK1.out
      | exact HK2.out)
    (first
      | (go_at_call_of 11 (Value.int IntKind.i64 x0_0); refine (toTc_any x0_0 _ l0_1 _ (hs0_1.up HE0.out.bel) hL0_1 hN0_1).mono ?_; rintro e w7 ⟨u7_1, vs7_1, rfl, hv7_1, K⟩; have HV7_1 := Lib.hid hv7_1; obtain ⟨A7_1', c7_1', rfl⟩ := K.openE hv7_1 (.head _); clear hv7_1; have HT := HE0.out.moreF K; clear K; have HX : InvF W w7 [segE (.slice A7_1' l0_1.length c7_1') vs7_1 l0_1, segX 33 w5.heap.size [.int .i64 x1_0, (.slice A5_1' l1_1.length c5_1')], segE (.slice A5_1' l1_1.length c5_1') vs5_1 l1_1, segX 33 w4.heap.size [.int .i64 x0_0, (.slice A4_1' l0_1.length c4_1')], segE (.slice A4_1' l0_1.length c4_1') vs4_1 l0_1, segX 26 (W.heap.size + 1) [.int .i64 x1_0, (.slice A1_1 l1_1.length c1_1)], segX 26 W.heap.size [.int .i64 x0_0, (.slice A0_1 l0_1.length c0_1)]] := HT; clear HT; have HE1 := Lib.hid HX; clear HX; have HK1 := Lib.hid (ten2 (HE1.out.c2 (.tail _ (.tail _ (.tail _ (.head _))))) (HE1.out.c2 (.tail _ (.tail _ (.tail _ (.tail _ (.tail _ (.tail _ (.head _))))))))))
      | (go_at_call 13; refine (eqTc_any x0_0 _ _ l0_1 _ (HE1.out.slE HV4_1.out (.tail _ (.tail _ (.tail _ (.tail _ (.head _)))))) (HE1.out.slE HV7_1.out (.head _))).mono ?_; rintro e w8 ⟨rfl, hb⟩; have HX := HE1.out.up hb; clear hb; have HE2 := Lib.hid HX; clear HX; have HK2 := Lib.hid (ten2 (HE2.out.c2 (.tail _ (.tail _ (.tail _ (.head _))))) (HE2.out.c2 (.tail _ (.tail _ (.tail _ (.tail _ (.tail _ (.tail _ (.head _)))))))))))
  clear H b26_0 b26_1 b27_0 b27_1 b28_0 b28_1 b29_0 b29_1
  have H := HE2.out
  clear HE0 HK0 HE1 HK1 HE2 HK2
  replace H := H.sub (qs := [segX 33 w5.heap.size [.int .i64 x1_0, (.slice A5_1' l1_1.length c5_1')], segE (.slice A5_1' l1_1.length c5_1') vs5_1 l1_1, segX 33 w4.heap.size [.int .i64 x0_0, (.slice A4_1' l0_1.length c4_1')], segE (.slice A4_1' l0_1.length c4_1') vs4_1 l0_1, segX 26 (W.heap.size + 1) [.int .i64 x1_0, (.slice A1_1 l1_1.length c1_1)], segX 26 W.heap.size [.int .i64 x0_0, (.slice A0_1 l0_1.length c0_1)]]) (.cons _ (.cons_cons _ (.cons_cons _ (.cons_cons _ (.cons_cons _ (.cons_cons _ (.cons_cons _ .slnil)))))))
  obtain ⟨b30_0, b30_1⟩ := H.c2 (.head _)
  obtain ⟨b31_0, b31_1⟩ := H.c2 (.tail _ (.tail _ (.head _)))
  obtain ⟨b32_0, b32_1⟩ := H.c2 (.tail _ (.tail _ (.tail _ (.tail _ (.head _)))))
  obtain ⟨b33_0, b33_1⟩ := H.c2 (.tail _ (.tail _ (.tail _ (.tail _ (.tail _ (.head _))))))
  have HE0 := Lib.hid (H.drewN 1)
  have HK0 := Lib.hid (ten2 (HE0.out.c2 (.head _)) (HE0.out.c2 (.tail _ (.tail _ (.tail _ (.tail _ (.head _)))))))
  go_wp2_with fail
  go_region_held3 (fun w' => w'.cell? ⟨w5.heap.size, 0, none⟩ = some (.int .i64 x1_0) ∧ w'.cell? ⟨w5.heap.size, 1, none⟩ = some (.slice A5_1' l1_1.length c5_1') ∧ w'.cell? ⟨W.heap.size + 1, 0, none⟩ = some (.int .i64 x1_0) ∧ w'.cell? ⟨W.heap.size + 1, 1, none⟩ = some (.slice A1_1 l1_1.length c1_1))
    (first
      | exact HK0.out
      | exact HK1.out
      | exact HK2.out)
    (first
      | (go_at_call_of 11 (Value.int IntKind.i64 x1_0); refine (toTc_any x1_0 _ l1_1 _ (hs1_1.up HE0.out.bel) hL1_1 hN1_1).mono ?_; rintro e w9 ⟨u9_1, vs9_1, rfl, hv9_1, K⟩; have HV9_1 := Lib.hid hv9_1; obtain ⟨A9_1', c9_1', rfl⟩ := K.openE hv9_1 (.head _); clear hv9_1; have HT := HE0.out.moreF K; clear K; have HX : InvF W w9 [segE (.slice A9_1' l1_1.length c9_1') vs9_1 l1_1, segX 33 w5.heap.size [.int .i64 x1_0, (.slice A5_1' l1_1.length c5_1')], segE (.slice A5_1' l1_1.length c5_1') vs5_1 l1_1, segX 33 w4.heap.size [.int .i64 x0_0, (.slice A4_1' l0_1.length c4_1')], segE (.slice A4_1' l0_1.length c4_1') vs4_1 l0_1, segX 26 (W.heap.size + 1) [.int .i64 x1_0, (.slice A1_1 l1_1.length c1_1)], segX 26 W.heap.size [.int .i64 x0_0, (.slice A0_1 l0_1.length c0_1)]] := HT; clear HT; have HE1 := Lib.hid HX; clear HX; have HK1 := Lib.hid (ten2 (HE1.out.c2 (.tail _ (.head _))) (HE1.out.c2 (.tail _ (.tail _ (.tail _ (.tail _ (.tail _ (.head _)))))))))
      | (go_at_call 13; refine (eqTc_any x1_0 _ _ l1_1 _ (HE1.out.slE HV5_1.out (.tail _ (.tail _ (.head _)))) (HE1.out.slE HV9_1.out (.head _))).mono ?_; rintro e w10 ⟨rfl, hb⟩; have HX := HE1.out.up hb; clear hb; have HE2 := Lib.hid HX; clear HX; have HK2 := Lib.hid (ten2 (HE2.out.c2 (.tail _ (.head _))) (HE2.out.c2 (.tail _ (.tail _ (.tail _ (.tail _ (.tail _ (.head _))))))))))
  clear H b30_0 b30_1 b31_0 b31_1 b32_0 b32_1 b33_0 b33_1
  have H := HE2.out
  clear HE0 HK0 HE1 HK1 HE2 HK2
  replace H := H.sub (qs := [segX 33 w5.heap.size [.int .i64 x1_0, (.slice A5_1' l1_1.length c5_1')], segE (.slice A5_1' l1_1.length c5_1') vs5_1 l1_1, segX 33 w4.heap.size [.int .i64 x0_0, (.slice A4_1' l0_1.length c4_1')], segE (.slice A4_1' l0_1.length c4_1') vs4_1 l0_1, segX 26 (W.heap.size + 1) [.int .i64 x1_0, (.slice A1_1 l1_1.length c1_1)], segX 26 W.heap.size [.int .i64 x0_0, (.slice A0_1 l0_1.length c0_1)]]) (.cons _ (.cons_cons _ (.cons_cons _ (.cons_cons _ (.cons_cons _ (.cons_cons _ (.cons_cons _ .slnil)))))))
  obtain ⟨b34_0, b34_1⟩ := H.c2 (.head _)
  obtain ⟨b35_0, b35_1⟩ := H.c2 (.tail _ (.tail _ (.head _)))
  obtain ⟨b36_0, b36_1⟩ := H.c2 (.tail _ (.tail _ (.tail _ (.tail _ (.head _)))))
  obtain ⟨b37_0, b37_1⟩ := H.c2 (.tail _ (.tail _ (.tail _ (.tail _ (.tail _ (.head _))))))
  go_wp2_with fail
  go_ret
  exact ⟨rfl, by have hfin := H.bel; simpa using hfin⟩
end Go.Proofs.Ytickneafppbegaa
