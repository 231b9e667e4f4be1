/- The walk of the exact law of TcBits: for every argument the law answers true and leaves all memory that was there as it was. -/
import Derived.Test.YtickneafppbegaaTc
import Derived.Test.YtickneafppbegaaTcBits
import Derived.Deep.RegionHeld3
namespace Go.Proofs.Ytickneafppbegaa
open Go.ChangeShapes Go.WideShapes Go.ChangeAt Go.RowKit

set_option maxRecDepth 100000 in
set_option maxHeartbeats 8000000 in
theorem TcBits_walk (x0_0 x0_1 x0_2 x0_3 x0_4 : Int) (x1_0 : Int) (v1_1 : Value) (l1_1 : List Et) (W : World) (h1_1 : SlE W W.heap.size v1_1 l1_1)  :
    Calls Try.prog 7 #[.agg #[.int .i64 x0_0, .int .i64 x0_1, .int .i64 x0_2, .int .i64 x0_3, .int .i64 x0_4], .agg #[.int .i64 x1_0, v1_1]] W (Yes W) := by
  have hs1_1 := h1_1
  obtain ⟨A1_1, c1_1, rfl, p1_1, q1_1, r1_1, z1_1⟩ := h1_1
  unfold maxLen at q1_1
  clear r1_1 z1_1
  by_cases hbig : (1048576 : Int) < (l1_1.length : Int) + (volE l1_1 : Int)
  · have HZ0 : Hid (szTZ l1_1 (1048576 : Int) = -1) := Lib.hid (by exact szTZ_big hbig)
    clear hbig
    have H : InvF W W [] := InvF.start W
    replace H := H.newG 23 #[.int .i64 x0_0, .int .i64 x0_1, .int .i64 x0_2, .int .i64 x0_3, .int .i64 x0_4] (W.heap.size)
    replace H := H.newG 26 #[.int .i64 x1_0, .slice A1_1 l1_1.length c1_1] (W.heap.size + 1)
    replace H : InvF W _ [segX 26 (W.heap.size + 1) [.int .i64 x1_0, (.slice A1_1 l1_1.length c1_1)], segX 23 W.heap.size [.int .i64 x0_0, .int .i64 x0_1, .int .i64 x0_2, .int .i64 x0_3, .int .i64 x0_4]] := H
    go_enter Try.func7, Try.ntmps7
    obtain ⟨b1_0, b1_1⟩ := H.c2 (.head _)
    obtain ⟨b2_0, b2_1, b2_2, b2_3, b2_4⟩ := H.c5 (.tail _ (.head _))
    go_wp2_with fail
    refine (szTc_any x1_0 _ l1_1 1048576 _ (hs1_1.up H.bel) (by omega) (by omega)).mono ?_
    rw [HZ0.out]
    rintro e wz0 ⟨rfl, hb⟩
    replace H := H.up hb
    clear hb
    clear b1_0 b1_1 b2_0 b2_1 b2_2 b2_3 b2_4
    obtain ⟨b3_0, b3_1⟩ := H.c2 (.head _)
    obtain ⟨b4_0, b4_1, b4_2, b4_3, b4_4⟩ := H.c5 (.tail _ (.head _))
    go_wp2
    go_ret
    exact ⟨rfl, H.bel⟩
  obtain ⟨zz0, hz⟩ : ∃ z, z = (1048576 : Int) - ((l1_1.length : Int) + (volE l1_1 : Int)) := ⟨_, rfl⟩
  have HZ0 : Hid (szTZ l1_1 (1048576 : Int) = zz0) := Lib.hid (by rw [hz]; exact szTZ_ok hbig)
  have hzlo0 : 0 ≤ zz0 := by omega
  have hzhi0 : zz0 ≤ 1048576 := by omega
  have hzn0 : ¬ (zz0 < 0) := by omega
  have hL1_1 : l1_1.length ≤ 1048576 := by omega
  have hN1_1 : volE l1_1 ≤ 1048576 := by omega
  have hM1_1 : mkE l1_1 ≤ 4194304 := by unfold mkE; omega
  have hT1 : l1_1.length + volE l1_1 ≤ 1048576 := by omega
  clear hbig hz
  have hp : (tcBitsL x0_0 x0_1 x0_2 x0_3 x0_4 x1_0 l1_1).length ≤ 4194304 := by have := tcBitsL_len x0_0 x0_1 x0_2 x0_3 x0_4 x1_0 l1_1; omega
  obtain ⟨R, hR⟩ : ∃ R, R = tcBitsL x0_0 x0_1 x0_2 x0_3 x0_4 x1_0 l1_1 := ⟨_, rfl⟩
  rw [← hR] at hp
  have HR := Lib.hid hR
  clear hR
  obtain ⟨b0, hB⟩ : ∃ b, b = tcBitsB x0_0 x0_1 x0_2 x0_3 x0_4 x1_0 l1_1 := ⟨_, rfl⟩
  have HB0 := Lib.hid hB
  clear hB
  have hbb0 : (b0 != b0) = false := by simp
  have H : InvF W W [] := InvF.start W
  replace H := H.newG 23 #[.int .i64 x0_0, .int .i64 x0_1, .int .i64 x0_2, .int .i64 x0_3, .int .i64 x0_4] (W.heap.size)
  replace H := H.newG 26 #[.int .i64 x1_0, .slice A1_1 l1_1.length c1_1] (W.heap.size + 1)
  replace H : InvF W _ [segX 26 (W.heap.size + 1) [.int .i64 x1_0, (.slice A1_1 l1_1.length c1_1)], segX 23 W.heap.size [.int .i64 x0_0, .int .i64 x0_1, .int .i64 x0_2, .int .i64 x0_3, .int .i64 x0_4]] := H
  go_enter Try.func7, Try.ntmps7
  obtain ⟨b5_0, b5_1⟩ := H.c2 (.head _)
  obtain ⟨b6_0, b6_1, b6_2, b6_3, b6_4⟩ := H.c5 (.tail _ (.head _))
  go_wp2_with fail
  refine (szTc_any x1_0 _ l1_1 1048576 _ (hs1_1.up H.bel) (by omega) (by omega)).mono ?_
  rw [HZ0.out]
  rintro e wz0 ⟨rfl, hb⟩
  replace H := H.up hb
  clear hb
  clear b5_0 b5_1 b6_0 b6_1 b6_2 b6_3 b6_4
  obtain ⟨b7_0, b7_1⟩ := H.c2 (.head _)
  obtain ⟨b8_0, b8_1, b8_2, b8_3, b8_4⟩ := H.c5 (.tail _ (.head _))
  have HE0 := Lib.hid (H.drewN 1)
  have HK0 := Lib.hid (ten (HE0.out.c5 (.tail _ (.head _))) (HE0.out.c2 (.head _)))
  go_wp2_with fail
  go_region_held3 (fun w' => w'.cell? ⟨W.heap.size, 0, none⟩ = some (.int .i64 x0_0) ∧ w'.cell? ⟨W.heap.size, 1, none⟩ = some (.int .i64 x0_1) ∧ w'.cell? ⟨W.heap.size, 2, none⟩ = some (.int .i64 x0_2) ∧ w'.cell? ⟨W.heap.size, 3, none⟩ = some (.int .i64 x0_3) ∧ w'.cell? ⟨W.heap.size, 4, none⟩ = some (.int .i64 x0_4) ∧ w'.cell? ⟨W.heap.size + 1, 0, none⟩ = some (.int .i64 x1_0) ∧ w'.cell? ⟨W.heap.size + 1, 1, none⟩ = some (.slice A1_1 l1_1.length c1_1))
    (first
      | exact HK0.out
      | exact HK1.out
      | exact HK2.out
      | exact HK3.out)
    (first
      | (go_at_call_of 10 (Value.int IntKind.i64 x0_0); refine (toLimits_any x0_0 x0_1 x0_2 x0_3 x0_4   _  ).mono ?_; rintro e w1 ⟨rfl, hb⟩; have HX := HE0.out.up hb; clear hb; have HE1 := Lib.hid HX; clear HX; have HK1 := Lib.hid (ten (HE1.out.c5 (.tail _ (.head _))) (HE1.out.c2 (.head _))))
      | (go_at_call_of 11 (Value.int IntKind.i64 x1_0); refine (toTc_any x1_0 _ l1_1 _ (hs1_1.up HE1.out.bel) hL1_1 hN1_1).mono ?_; rintro e w2 ⟨u2_1, vs2_1, rfl, hv2_1, K⟩; have HV2_1 := Lib.hid hv2_1; obtain ⟨A2_1', c2_1', rfl⟩ := K.openE hv2_1 (.head _); clear hv2_1; have HT := HE1.out.moreF K; clear K; have HX : InvF W w2 [segE (.slice A2_1' l1_1.length c2_1') vs2_1 l1_1, segX 26 (W.heap.size + 1) [.int .i64 x1_0, (.slice A1_1 l1_1.length c1_1)], segX 23 W.heap.size [.int .i64 x0_0, .int .i64 x0_1, .int .i64 x0_2, .int .i64 x0_3, .int .i64 x0_4]] := HT; clear HT; have HE2 := Lib.hid HX; clear HX; have HK2 := Lib.hid (ten (HE2.out.c5 (.tail _ (.tail _ (.head _)))) (HE2.out.c2 (.tail _ (.head _)))))
      | (go_at_call 25; refine (specTcBits_any x0_0 x0_1 x0_2 x0_3 x0_4 x1_0 _ l1_1 _  (HE2.out.slE HV2_1.out (.head _))  ).mono ?_; rw [← HR.out, ← HB0.out]; rintro e w3 ⟨u3, rfl, ho, hb⟩; have HX := HE2.out.moreB ho hb; clear ho hb; have HE3 := Lib.hid HX; clear HX; have HK3 := Lib.hid (ten (HE3.out.c5 (.tail _ (.tail _ (.tail _ (.head _))))) (HE3.out.c2 (.tail _ (.tail _ (.head _)))))))
  clear H b7_0 b7_1 b8_0 b8_1 b8_2 b8_3 b8_4
  have H := HE3.out
  clear HE0 HK0 HE1 HK1 HE2 HK2 HE3 HK3
  replace H := H.sub (qs := [segB 5 u3 R, segX 26 (W.heap.size + 1) [.int .i64 x1_0, (.slice A1_1 l1_1.length c1_1)], segX 23 W.heap.size [.int .i64 x0_0, .int .i64 x0_1, .int .i64 x0_2, .int .i64 x0_3, .int .i64 x0_4]]) (.cons_cons _ (.cons _ (.cons_cons _ (.cons_cons _ .slnil))))
  obtain ⟨b9_0, b9_1⟩ := H.c2 (.tail _ (.head _))
  obtain ⟨b10_0, b10_1, b10_2, b10_3, b10_4⟩ := H.c5 (.tail _ (.tail _ (.head _)))
  go_wp2_with fail
  refine (toTc_any x1_0 _ l1_1 _ (hs1_1.up H.bel) hL1_1 hN1_1).mono ?_
  rintro e w4 ⟨u4_1, vs4_1, rfl, hv4_1, K⟩
  have HV4_1 := Lib.hid hv4_1
  obtain ⟨A4_1', c4_1', rfl⟩ := K.openE hv4_1 (.head _)
  clear hv4_1
  have HT := H.moreF K
  clear K
  replace H : InvF W w4 [segE (.slice A4_1' l1_1.length c4_1') vs4_1 l1_1, segB 5 u3 R, segX 26 (W.heap.size + 1) [.int .i64 x1_0, (.slice A1_1 l1_1.length c1_1)], segX 23 W.heap.size [.int .i64 x0_0, .int .i64 x0_1, .int .i64 x0_2, .int .i64 x0_3, .int .i64 x0_4]] := HT
  clear HT
  replace H := H.newX 33 #[.int .i64 x1_0, (.slice A4_1' l1_1.length c4_1')]
  replace H : InvF W _ [segX 33 w4.heap.size [.int .i64 x1_0, (.slice A4_1' l1_1.length c4_1')], segE (.slice A4_1' l1_1.length c4_1') vs4_1 l1_1, segB 5 u3 R, segX 26 (W.heap.size + 1) [.int .i64 x1_0, (.slice A1_1 l1_1.length c1_1)], segX 23 W.heap.size [.int .i64 x0_0, .int .i64 x0_1, .int .i64 x0_2, .int .i64 x0_3, .int .i64 x0_4]] := H
  clear b9_0 b9_1 b10_0 b10_1 b10_2 b10_3 b10_4
  obtain ⟨b11_0, b11_1⟩ := H.c2 (.head _)
  obtain ⟨b12_0, b12_1⟩ := H.c2 (.tail _ (.tail _ (.tail _ (.head _))))
  obtain ⟨b13_0, b13_1, b13_2, b13_3, b13_4⟩ := H.c5 (.tail _ (.tail _ (.tail _ (.tail _ (.head _)))))
  have HE0 := Lib.hid (H.drewN 1)
  have HK0 := Lib.hid (ten (HE0.out.c5 (.tail _ (.tail _ (.tail _ (.tail _ (.head _)))))) (HE0.out.c2 (.head _)))
  go_wp2_with fail
  go_region_held3 (fun w' => w'.cell? ⟨W.heap.size, 0, none⟩ = some (.int .i64 x0_0) ∧ w'.cell? ⟨W.heap.size, 1, none⟩ = some (.int .i64 x0_1) ∧ w'.cell? ⟨W.heap.size, 2, none⟩ = some (.int .i64 x0_2) ∧ w'.cell? ⟨W.heap.size, 3, none⟩ = some (.int .i64 x0_3) ∧ w'.cell? ⟨W.heap.size, 4, none⟩ = some (.int .i64 x0_4) ∧ w'.cell? ⟨w4.heap.size, 0, none⟩ = some (.int .i64 x1_0) ∧ w'.cell? ⟨w4.heap.size, 1, none⟩ = some (.slice A4_1' l1_1.length c4_1'))
    (first
      | exact HK0.out
      | exact HK1.out
      | exact HK2.out)
    (first
      | (go_at_call_of 10 (Value.int IntKind.i64 x0_0); refine (toLimits_any x0_0 x0_1 x0_2 x0_3 x0_4   _  ).mono ?_; rintro e w5 ⟨rfl, hb⟩; have HX := HE0.out.up hb; clear hb; have HE1 := Lib.hid HX; clear HX; have HK1 := Lib.hid (ten (HE1.out.c5 (.tail _ (.tail _ (.tail _ (.tail _ (.head _)))))) (HE1.out.c2 (.head _))))
      | (go_at_call 26; refine (implTcBits_any x0_0 x0_1 x0_2 x0_3 x0_4 x1_0 _ l1_1 _  (HE1.out.slE HV4_1.out (.tail _ (.head _)))  ).mono ?_; rw [← HR.out, ← HB0.out]; rintro e w6 ⟨u6, rfl, ho, hb⟩; have HX := HE1.out.moreB ho hb; clear ho hb; have HE2 := Lib.hid HX; clear HX; have HK2 := Lib.hid (ten (HE2.out.c5 (.tail _ (.tail _ (.tail _ (.tail _ (.tail _ (.head _))))))) (HE2.out.c2 (.tail _ (.head _))))))
  clear H b11_0 b11_1 b12_0 b12_1 b13_0 b13_1 b13_2 b13_3 b13_4
  have H := HE2.out
  clear HE0 HK0 HE1 HK1 HE2 HK2
  obtain ⟨b14_0, b14_1⟩ := H.c2 (.tail _ (.head _))
  obtain ⟨b15_0, b15_1⟩ := H.c2 (.tail _ (.tail _ (.tail _ (.tail _ (.head _)))))
  obtain ⟨b16_0, b16_1, b16_2, b16_3, b16_4⟩ := H.c5 (.tail _ (.tail _ (.tail _ (.tail _ (.tail _ (.head _))))))
  go_wp2_with fail
  refine (eqByteS_any _ _ R _ (H.slB 5 (.head _)) (H.slB 5 (.tail _ (.tail _ (.tail _ (.head _)))))).mono ?_
  rintro e _ ⟨rfl, d7, rfl⟩
  replace H := H.drewN d7
  clear b14_0 b14_1 b15_0 b15_1 b16_0 b16_1 b16_2 b16_3 b16_4
  obtain ⟨b17_0, b17_1⟩ := H.c2 (.tail _ (.head _))
  obtain ⟨b18_0, b18_1⟩ := H.c2 (.tail _ (.tail _ (.tail _ (.tail _ (.head _)))))
  obtain ⟨b19_0, b19_1, b19_2, b19_3, b19_4⟩ := H.c5 (.tail _ (.tail _ (.tail _ (.tail _ (.tail _ (.head _))))))
  have HE0 := Lib.hid (H.drewN 1)
  have HK0 := Lib.hid (ten2 (HE0.out.c2 (.tail _ (.head _))) (HE0.out.c2 (.tail _ (.tail _ (.tail _ (.tail _ (.head _)))))))
  go_wp2_with fail
  go_region_held3 (fun w' => w'.cell? ⟨w4.heap.size, 0, none⟩ = some (.int .i64 x1_0) ∧ w'.cell? ⟨w4.heap.size, 1, none⟩ = some (.slice A4_1' l1_1.length c4_1') ∧ w'.cell? ⟨W.heap.size + 1, 0, none⟩ = some (.int .i64 x1_0) ∧ w'.cell? ⟨W.heap.size + 1, 1, none⟩ = some (.slice A1_1 l1_1.length c1_1))
    (first
      | exact HK0.out
      | exact HK1.out
      | exact HK2.out)
    (first
      | (go_at_call_of 11 (Value.int IntKind.i64 x1_0); refine (toTc_any x1_0 _ l1_1 _ (hs1_1.up HE0.out.bel) hL1_1 hN1_1).mono ?_; rintro e w8 ⟨u8_1, vs8_1, rfl, hv8_1, K⟩; have HV8_1 := Lib.hid hv8_1; obtain ⟨A8_1', c8_1', rfl⟩ := K.openE hv8_1 (.head _); clear hv8_1; have HT := HE0.out.moreF K; clear K; have HX : InvF W w8 [segE (.slice A8_1' l1_1.length c8_1') vs8_1 l1_1, segB 5 u6 R, segX 33 w4.heap.size [.int .i64 x1_0, (.slice A4_1' l1_1.length c4_1')], segE (.slice A4_1' l1_1.length c4_1') vs4_1 l1_1, segB 5 u3 R, segX 26 (W.heap.size + 1) [.int .i64 x1_0, (.slice A1_1 l1_1.length c1_1)], segX 23 W.heap.size [.int .i64 x0_0, .int .i64 x0_1, .int .i64 x0_2, .int .i64 x0_3, .int .i64 x0_4]] := HT; clear HT; have HE1 := Lib.hid HX; clear HX; have HK1 := Lib.hid (ten2 (HE1.out.c2 (.tail _ (.tail _ (.head _)))) (HE1.out.c2 (.tail _ (.tail _ (.tail _ (.tail _ (.tail _ (.head _)))))))))
      | (go_at_call 13; refine (eqTc_any x1_0 _ _ l1_1 _ (HE1.out.slE HV4_1.out (.tail _ (.tail _ (.tail _ (.head _))))) (HE1.out.slE HV8_1.out (.head _))).mono ?_; rintro e w9 ⟨rfl, hb⟩; have HX := HE1.out.up hb; clear hb; have HE2 := Lib.hid HX; clear HX; have HK2 := Lib.hid (ten2 (HE2.out.c2 (.tail _ (.tail _ (.head _)))) (HE2.out.c2 (.tail _ (.tail _ (.tail _ (.tail _ (.tail _ (.head _))))))))))
  clear H b17_0 b17_1 b18_0 b18_1 b19_0 b19_1 b19_2 b19_3 b19_4
  have H := HE2.out
  clear HE0 HK0 HE1 HK1 HE2 HK2
  replace H := H.sub (qs := [segB 5 u6 R, segX 33 w4.heap.size [.int .i64 x1_0, (.slice A4_1' l1_1.length c4_1')], segE (.slice A4_1' l1_1.length c4_1') vs4_1 l1_1, segB 5 u3 R, segX 26 (W.heap.size + 1) [.int .i64 x1_0, (.slice A1_1 l1_1.length c1_1)], segX 23 W.heap.size [.int .i64 x0_0, .int .i64 x0_1, .int .i64 x0_2, .int .i64 x0_3, .int .i64 x0_4]]) (.cons _ (.cons_cons _ (.cons_cons _ (.cons_cons _ (.cons_cons _ (.cons_cons _ (.cons_cons _ .slnil)))))))
  replace H : InvF W _ [segE (.slice A4_1' l1_1.length c4_1') vs4_1 l1_1, segB 5 u6 R, segX 33 w4.heap.size [.int .i64 x1_0, (.slice A4_1' l1_1.length c4_1')], segB 5 u3 R, segX 26 (W.heap.size + 1) [.int .i64 x1_0, (.slice A1_1 l1_1.length c1_1)], segX 23 W.heap.size [.int .i64 x0_0, .int .i64 x0_1, .int .i64 x0_2, .int .i64 x0_3, .int .i64 x0_4]] := H.front 2 rfl
  obtain ⟨b20_0, b20_1⟩ := H.c2 (.tail _ (.tail _ (.head _)))
  obtain ⟨b21_0, b21_1⟩ := H.c2 (.tail _ (.tail _ (.tail _ (.tail _ (.head _)))))
  obtain ⟨b22_0, b22_1, b22_2, b22_3, b22_4⟩ := H.c5 (.tail _ (.tail _ (.tail _ (.tail _ (.tail _ (.head _))))))
  go_wp2_with fail
  refine (markTc_z x1_0 W _ _ _ l1_1 _ (1) _ HV4_1.out H rfl (by omega) (by omega)).mono ?_
  rintro e w10 ⟨rfl, K⟩
  replace H := K
  clear K
  have HV4_1m10 : Hid (vs4_1.length = (marksE (1) l1_1).length) := Lib.hid (by rw [marksE_length]; exact HV4_1.out)
  replace H : InvF W w10 [segE (.slice A4_1' l1_1.length c4_1') vs4_1 (marksE (1) l1_1), segB 5 u6 R, segX 33 w4.heap.size [.int .i64 x1_0, (.slice A4_1' l1_1.length c4_1')], segB 5 u3 R, segX 26 (W.heap.size + 1) [.int .i64 x1_0, (.slice A1_1 l1_1.length c1_1)], segX 23 W.heap.size [.int .i64 x0_0, .int .i64 x0_1, .int .i64 x0_2, .int .i64 x0_3, .int .i64 x0_4]] := H
  have hltk : ¬ ((1 : Int) + (mkE l1_1 : Int) < 0) := by omega
  clear b20_0 b20_1 b21_0 b21_1 b22_0 b22_1 b22_2 b22_3 b22_4
  obtain ⟨b23_0, b23_1⟩ := H.c2 (.tail _ (.tail _ (.head _)))
  obtain ⟨b24_0, b24_1⟩ := H.c2 (.tail _ (.tail _ (.tail _ (.tail _ (.head _)))))
  obtain ⟨b25_0, b25_1, b25_2, b25_3, b25_4⟩ := H.c5 (.tail _ (.tail _ (.tail _ (.tail _ (.tail _ (.head _))))))
  go_wp2_with fail
  refine (eqByteS_any _ _ R _ (H.slB 5 (.tail _ (.head _))) (H.slB 5 (.tail _ (.tail _ (.tail _ (.head _)))))).mono ?_
  rintro e _ ⟨rfl, d11, rfl⟩
  replace H := H.drewN d11
  replace H := H.sub (qs := [segB 5 u6 R, segB 5 u3 R, segX 26 (W.heap.size + 1) [.int .i64 x1_0, (.slice A1_1 l1_1.length c1_1)], segX 23 W.heap.size [.int .i64 x0_0, .int .i64 x0_1, .int .i64 x0_2, .int .i64 x0_3, .int .i64 x0_4]]) (.cons _ (.cons_cons _ (.cons _ (.cons_cons _ (.cons_cons _ (.cons_cons _ .slnil))))))
  clear b23_0 b23_1 b24_0 b24_1 b25_0 b25_1 b25_2 b25_3 b25_4
  obtain ⟨b26_0, b26_1⟩ := H.c2 (.tail _ (.tail _ (.head _)))
  obtain ⟨b27_0, b27_1, b27_2, b27_3, b27_4⟩ := H.c5 (.tail _ (.tail _ (.tail _ (.head _))))
  go_wp2_with fail
  refine (markByteS_z _ R (1) _ _ _ (H.ownB 5 (.head _)) rfl (by omega) (by omega)).mono ?_
  rintro e w12 ⟨rfl, ho, hg⟩
  replace H := H.wroteB ho hg
  clear ho hg
  clear b26_0 b26_1 b27_0 b27_1 b27_2 b27_3 b27_4
  obtain ⟨b28_0, b28_1⟩ := H.c2 (.tail _ (.tail _ (.head _)))
  obtain ⟨b29_0, b29_1, b29_2, b29_3, b29_4⟩ := H.c5 (.tail _ (.tail _ (.tail _ (.head _))))
  go_wp2_with fail
  refine (heldByteS_z _ 1 R.length _ _ (H.slB 5 (.head _)) rfl (by omega) (by omega)).mono ?_
  rintro e _ ⟨rfl, d13, rfl⟩
  replace H := H.drewN d13
  have hltL : ¬ ((1 : Int) + (R.length : Int) < 0) := by omega
  have hneL : ((1 : Int) + (R.length : Int) != 1 + (R.length : Int)) = false := by simp
  clear b28_0 b28_1 b29_0 b29_1 b29_2 b29_3 b29_4
  obtain ⟨b30_0, b30_1⟩ := H.c2 (.tail _ (.tail _ (.head _)))
  obtain ⟨b31_0, b31_1, b31_2, b31_3, b31_4⟩ := H.c5 (.tail _ (.tail _ (.tail _ (.head _))))
  have HE0 := Lib.hid (H.drewN 1)
  have HK0 := Lib.hid (ten (HE0.out.c5 (.tail _ (.tail _ (.tail _ (.head _))))) (HE0.out.c2 (.tail _ (.tail _ (.head _)))))
  go_wp2_with fail
  go_region_held3 (fun w' => w'.cell? ⟨W.heap.size, 0, none⟩ = some (.int .i64 x0_0) ∧ w'.cell? ⟨W.heap.size, 1, none⟩ = some (.int .i64 x0_1) ∧ w'.cell? ⟨W.heap.size, 2, none⟩ = some (.int .i64 x0_2) ∧ w'.cell? ⟨W.heap.size, 3, none⟩ = some (.int .i64 x0_3) ∧ w'.cell? ⟨W.heap.size, 4, none⟩ = some (.int .i64 x0_4) ∧ w'.cell? ⟨W.heap.size + 1, 0, none⟩ = some (.int .i64 x1_0) ∧ w'.cell? ⟨W.heap.size + 1, 1, none⟩ = some (.slice A1_1 l1_1.length c1_1))
    (first
      | exact HK0.out
      | exact HK1.out
      | exact HK2.out
      | exact HK3.out)
    (first
      | (go_at_call_of 10 (Value.int IntKind.i64 x0_0); refine (toLimits_any x0_0 x0_1 x0_2 x0_3 x0_4   _  ).mono ?_; rintro e w14 ⟨rfl, hb⟩; have HX := HE0.out.up hb; clear hb; have HE1 := Lib.hid HX; clear HX; have HK1 := Lib.hid (ten (HE1.out.c5 (.tail _ (.tail _ (.tail _ (.head _))))) (HE1.out.c2 (.tail _ (.tail _ (.head _))))))
      | (go_at_call_of 11 (Value.int IntKind.i64 x1_0); refine (toTc_any x1_0 _ l1_1 _ (hs1_1.up HE1.out.bel) hL1_1 hN1_1).mono ?_; rintro e w15 ⟨u15_1, vs15_1, rfl, hv15_1, K⟩; have HV15_1 := Lib.hid hv15_1; obtain ⟨A15_1', c15_1', rfl⟩ := K.openE hv15_1 (.head _); clear hv15_1; have HT := HE1.out.moreF K; clear K; have HX : InvF W w15 [segE (.slice A15_1' l1_1.length c15_1') vs15_1 l1_1, segB 5 u6 (marks (1) R.length), segB 5 u3 R, segX 26 (W.heap.size + 1) [.int .i64 x1_0, (.slice A1_1 l1_1.length c1_1)], segX 23 W.heap.size [.int .i64 x0_0, .int .i64 x0_1, .int .i64 x0_2, .int .i64 x0_3, .int .i64 x0_4]] := HT; clear HT; have HE2 := Lib.hid HX; clear HX; have HK2 := Lib.hid (ten (HE2.out.c5 (.tail _ (.tail _ (.tail _ (.tail _ (.head _)))))) (HE2.out.c2 (.tail _ (.tail _ (.tail _ (.head _)))))))
      | (go_at_call 26; refine (implTcBits_any x0_0 x0_1 x0_2 x0_3 x0_4 x1_0 _ l1_1 _  (HE2.out.slE HV15_1.out (.head _))  ).mono ?_; rw [← HR.out, ← HB0.out]; rintro e w16 ⟨u16, rfl, ho, hb⟩; have HX := HE2.out.moreB ho hb; clear ho hb; have HE3 := Lib.hid HX; clear HX; have HK3 := Lib.hid (ten (HE3.out.c5 (.tail _ (.tail _ (.tail _ (.tail _ (.tail _ (.head _))))))) (HE3.out.c2 (.tail _ (.tail _ (.tail _ (.tail _ (.head _)))))))))
  clear H b30_0 b30_1 b31_0 b31_1 b31_2 b31_3 b31_4
  have H := HE3.out
  clear HE0 HK0 HE1 HK1 HE2 HK2 HE3 HK3
  obtain ⟨b32_0, b32_1⟩ := H.c2 (.tail _ (.tail _ (.tail _ (.tail _ (.head _)))))
  obtain ⟨b33_0, b33_1, b33_2, b33_3, b33_4⟩ := H.c5 (.tail _ (.tail _ (.tail _ (.tail _ (.tail _ (.head _))))))
  go_wp2_with fail
  refine (eqByteS_any _ _ R _ (H.slB 5 (.head _)) (H.slB 5 (.tail _ (.tail _ (.tail _ (.head _)))))).mono ?_
  rintro e _ ⟨rfl, d17, rfl⟩
  replace H := H.drewN d17
  clear b32_0 b32_1 b33_0 b33_1 b33_2 b33_3 b33_4
  obtain ⟨b34_0, b34_1⟩ := H.c2 (.tail _ (.tail _ (.tail _ (.tail _ (.head _)))))
  obtain ⟨b35_0, b35_1, b35_2, b35_3, b35_4⟩ := H.c5 (.tail _ (.tail _ (.tail _ (.tail _ (.tail _ (.head _))))))
  go_wp2_with fail
  refine (heldByteS_z _ 1 R.length _ _ (H.slB 5 (.tail _ (.tail _ (.head _)))) rfl (by omega) (by omega)).mono ?_
  rintro e _ ⟨rfl, d18, rfl⟩
  replace H := H.drewN d18
  clear b34_0 b34_1 b35_0 b35_1 b35_2 b35_3 b35_4
  obtain ⟨b36_0, b36_1⟩ := H.c2 (.tail _ (.tail _ (.tail _ (.tail _ (.head _)))))
  obtain ⟨b37_0, b37_1, b37_2, b37_3, b37_4⟩ := H.c5 (.tail _ (.tail _ (.tail _ (.tail _ (.tail _ (.head _))))))
  go_wp2_with fail
  go_ret
  exact ⟨rfl, by have hfin := H.bel; simpa using hfin⟩
end Go.Proofs.Ytickneafppbegaa
