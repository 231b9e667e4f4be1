/- The walk of the exact law of TcOk: for every argument the law answers true and leaves all memory that was there as it was. -/
import Derived.Test.YtickneafppbegaaTc
import Derived.Test.YtickneafppbegaaTcOkS
import Derived.Test.YtickneafppbegaaTcOk
import Derived.Deep.RegionHeld3
namespace Go.Proofs.Ytickneafppbegaa
open Go.ChangeShapes Go.WideShapes Go.ChangeAt Go.RowKit

set_option maxRecDepth 100000 in
set_option maxHeartbeats 8000000 in
theorem TcOk_walk (x0_0 x0_1 x0_2 x0_3 x0_4 : Int) (x1_0 : Int) (v1_1 : Value) (l1_1 : List Et) (W : World) (h1_1 : SlE W W.heap.size v1_1 l1_1)  :
    Calls Try.prog 3 #[.agg #[.int .i64 x0_0, .int .i64 x0_1, .int .i64 x0_2, .int .i64 x0_3, .int .i64 x0_4], .agg #[.int .i64 x1_0, v1_1]] W (Yes W) := by
  have hs1_1 := h1_1
  obtain ⟨A1_1, c1_1, rfl, p1_1, q1_1, r1_1, z1_1⟩ := h1_1
  unfold maxLen at q1_1
  clear r1_1 z1_1
  by_cases hbig : (1048576 : Int) < (l1_1.length : Int) + (volE l1_1 : Int)
  · have HZ0 : Hid (szTZ l1_1 (1048576 : Int) = -1) := Lib.hid (by exact szTZ_big hbig)
    clear hbig
    have H : InvF W W [] := InvF.start W
    replace H := H.newG 23 #[.int .i64 x0_0, .int .i64 x0_1, .int .i64 x0_2, .int .i64 x0_3, .int .i64 x0_4] (W.heap.size)
    replace H := H.newG 26 #[.int .i64 x1_0, .slice A1_1 l1_1.length c1_1] (W.heap.size + 1)
    replace H : InvF W _ [segX 26 (W.heap.size + 1) [.int .i64 x1_0, (.slice A1_1 l1_1.length c1_1)], segX 23 W.heap.size [.int .i64 x0_0, .int .i64 x0_1, .int .i64 x0_2, .int .i64 x0_3, .int .i64 x0_4]] := H
    go_enter Try.func3, Try.ntmps3
    obtain ⟨b1_0, b1_1⟩ := H.c2 (.head _)
    obtain ⟨b2_0, b2_1, b2_2, b2_3, b2_4⟩ := H.c5 (.tail _ (.head _))
    go_wp2_with fail
    refine (szTc_any x1_0 _ l1_1 1048576 _ (hs1_1.up H.bel) (by omega) (by omega)).mono ?_
    rw [HZ0.out]
    rintro e wz0 ⟨rfl, hb⟩
    replace H := H.up hb
    clear hb
    clear b1_0 b1_1 b2_0 b2_1 b2_2 b2_3 b2_4
    obtain ⟨b3_0, b3_1⟩ := H.c2 (.head _)
    obtain ⟨b4_0, b4_1, b4_2, b4_3, b4_4⟩ := H.c5 (.tail _ (.head _))
    go_wp2
    go_ret
    exact ⟨rfl, H.bel⟩
  obtain ⟨zz0, hz⟩ : ∃ z, z = (1048576 : Int) - ((l1_1.length : Int) + (volE l1_1 : Int)) := ⟨_, rfl⟩
  have HZ0 : Hid (szTZ l1_1 (1048576 : Int) = zz0) := Lib.hid (by rw [hz]; exact szTZ_ok hbig)
  have hzlo0 : 0 ≤ zz0 := by omega
  have hzhi0 : zz0 ≤ 1048576 := by omega
  have hzn0 : ¬ (zz0 < 0) := by omega
  have hL1_1 : l1_1.length ≤ 1048576 := by omega
  have hN1_1 : volE l1_1 ≤ 1048576 := by omega
  have hM1_1 : mkE l1_1 ≤ 4194304 := by unfold mkE; omega
  have hT1 : l1_1.length + volE l1_1 ≤ 1048576 := by omega
  clear hbig hz
  obtain ⟨b0, hB⟩ : ∃ b, b = tcB x0_0 x0_1 x0_2 x0_3 x0_4 x1_0 l1_1 := ⟨_, rfl⟩
  have HB0 := Lib.hid hB
  clear hB
  have hbb0 : (b0 != b0) = false := by simp
  have H : InvF W W [] := InvF.start W
  replace H := H.newG 23 #[.int .i64 x0_0, .int .i64 x0_1, .int .i64 x0_2, .int .i64 x0_3, .int .i64 x0_4] (W.heap.size)
  replace H := H.newG 26 #[.int .i64 x1_0, .slice A1_1 l1_1.length c1_1] (W.heap.size + 1)
  replace H : InvF W _ [segX 26 (W.heap.size + 1) [.int .i64 x1_0, (.slice A1_1 l1_1.length c1_1)], segX 23 W.heap.size [.int .i64 x0_0, .int .i64 x0_1, .int .i64 x0_2, .int .i64 x0_3, .int .i64 x0_4]] := H
  go_enter Try.func3, Try.ntmps3
  obtain ⟨b5_0, b5_1⟩ := H.c2 (.head _)
  obtain ⟨b6_0, b6_1, b6_2, b6_3, b6_4⟩ := H.c5 (.tail _ (.head _))
  go_wp2_with fail
  refine (szTc_any x1_0 _ l1_1 1048576 _ (hs1_1.up H.bel) (by omega) (by omega)).mono ?_
  rw [HZ0.out]
  rintro e wz0 ⟨rfl, hb⟩
  replace H := H.up hb
  clear hb
  clear b5_0 b5_1 b6_0 b6_1 b6_2 b6_3 b6_4
  obtain ⟨b7_0, b7_1⟩ := H.c2 (.head _)
  obtain ⟨b8_0, b8_1, b8_2, b8_3, b8_4⟩ := H.c5 (.tail _ (.head _))
  have HE0 := Lib.hid (H.drewN 1)
  have HK0 := Lib.hid (ten (HE0.out.c5 (.tail _ (.head _))) (HE0.out.c2 (.head _)))
  go_wp2_with fail
  go_region_held3 (fun w' => w'.cell? ⟨W.heap.size, 0, none⟩ = some (.int .i64 x0_0) ∧ w'.cell? ⟨W.heap.size, 1, none⟩ = some (.int .i64 x0_1) ∧ w'.cell? ⟨W.heap.size, 2, none⟩ = some (.int .i64 x0_2) ∧ w'.cell? ⟨W.heap.size, 3, none⟩ = some (.int .i64 x0_3) ∧ w'.cell? ⟨W.heap.size, 4, none⟩ = some (.int .i64 x0_4) ∧ w'.cell? ⟨W.heap.size + 1, 0, none⟩ = some (.int .i64 x1_0) ∧ w'.cell? ⟨W.heap.size + 1, 1, none⟩ = some (.slice A1_1 l1_1.length c1_1))
    (first
      | exact HK0.out
      | exact HK1.out
      | exact HK2.out
      | exact HK3.out)
    (first
      | (go_at_call_of 10 (Value.int IntKind.i64 x0_0); refine (toLimits_any x0_0 x0_1 x0_2 x0_3 x0_4   _  ).mono ?_; rintro e w1 ⟨rfl, hb⟩; have HX := HE0.out.up hb; clear hb; have HE1 := Lib.hid HX; clear HX; have HK1 := Lib.hid (ten (HE1.out.c5 (.tail _ (.head _))) (HE1.out.c2 (.head _))))
      | (go_at_call_of 11 (Value.int IntKind.i64 x1_0); refine (toTc_any x1_0 _ l1_1 _ (hs1_1.up HE1.out.bel) hL1_1 hN1_1).mono ?_; rintro e w2 ⟨u2_1, vs2_1, rfl, hv2_1, K⟩; have HV2_1 := Lib.hid hv2_1; obtain ⟨A2_1', c2_1', rfl⟩ := K.openE hv2_1 (.head _); clear hv2_1; have HT := HE1.out.moreF K; clear K; have HX : InvF W w2 [segE (.slice A2_1' l1_1.length c2_1') vs2_1 l1_1, segX 26 (W.heap.size + 1) [.int .i64 x1_0, (.slice A1_1 l1_1.length c1_1)], segX 23 W.heap.size [.int .i64 x0_0, .int .i64 x0_1, .int .i64 x0_2, .int .i64 x0_3, .int .i64 x0_4]] := HT; clear HT; have HE2 := Lib.hid HX; clear HX; have HK2 := Lib.hid (ten (HE2.out.c5 (.tail _ (.tail _ (.head _)))) (HE2.out.c2 (.tail _ (.head _)))))
      | (go_at_call 9; refine (specTcOk_any x0_0 x0_1 x0_2 x0_3 x0_4 x1_0 _ l1_1 _  (HE2.out.slE HV2_1.out (.head _))  ).mono ?_; rw [← HB0.out]; rintro e w3 ⟨rfl, hb⟩; have HX := HE2.out.up hb; clear hb; have HE3 := Lib.hid HX; clear HX; have HK3 := Lib.hid (ten (HE3.out.c5 (.tail _ (.tail _ (.head _)))) (HE3.out.c2 (.tail _ (.head _))))))
  clear H b7_0 b7_1 b8_0 b8_1 b8_2 b8_3 b8_4
  have H := HE3.out
  clear HE0 HK0 HE1 HK1 HE2 HK2 HE3 HK3
  replace H := H.sub (qs := [segX 26 (W.heap.size + 1) [.int .i64 x1_0, (.slice A1_1 l1_1.length c1_1)], segX 23 W.heap.size [.int .i64 x0_0, .int .i64 x0_1, .int .i64 x0_2, .int .i64 x0_3, .int .i64 x0_4]]) (.cons _ (.cons_cons _ (.cons_cons _ .slnil)))
  obtain ⟨b9_0, b9_1⟩ := H.c2 (.head _)
  obtain ⟨b10_0, b10_1, b10_2, b10_3, b10_4⟩ := H.c5 (.tail _ (.head _))
  go_wp2_with fail
  refine (toTc_any x1_0 _ l1_1 _ (hs1_1.up H.bel) hL1_1 hN1_1).mono ?_
  rintro e w4 ⟨u4_1, vs4_1, rfl, hv4_1, K⟩
  have HV4_1 := Lib.hid hv4_1
  obtain ⟨A4_1', c4_1', rfl⟩ := K.openE hv4_1 (.head _)
  clear hv4_1
  have HT := H.moreF K
  clear K
  replace H : InvF W w4 [segE (.slice A4_1' l1_1.length c4_1') vs4_1 l1_1, segX 26 (W.heap.size + 1) [.int .i64 x1_0, (.slice A1_1 l1_1.length c1_1)], segX 23 W.heap.size [.int .i64 x0_0, .int .i64 x0_1, .int .i64 x0_2, .int .i64 x0_3, .int .i64 x0_4]] := HT
  clear HT
  replace H := H.newX 33 #[.int .i64 x1_0, (.slice A4_1' l1_1.length c4_1')]
  replace H : InvF W _ [segX 33 w4.heap.size [.int .i64 x1_0, (.slice A4_1' l1_1.length c4_1')], segE (.slice A4_1' l1_1.length c4_1') vs4_1 l1_1, segX 26 (W.heap.size + 1) [.int .i64 x1_0, (.slice A1_1 l1_1.length c1_1)], segX 23 W.heap.size [.int .i64 x0_0, .int .i64 x0_1, .int .i64 x0_2, .int .i64 x0_3, .int .i64 x0_4]] := H
  clear b9_0 b9_1 b10_0 b10_1 b10_2 b10_3 b10_4
  obtain ⟨b11_0, b11_1⟩ := H.c2 (.head _)
  obtain ⟨b12_0, b12_1⟩ := H.c2 (.tail _ (.tail _ (.head _)))
  obtain ⟨b13_0, b13_1, b13_2, b13_3, b13_4⟩ := H.c5 (.tail _ (.tail _ (.tail _ (.head _))))
  have HE0 := Lib.hid (H.drewN 1)
  have HK0 := Lib.hid (ten (HE0.out.c5 (.tail _ (.tail _ (.tail _ (.head _))))) (HE0.out.c2 (.head _)))
  go_wp2_with fail
  go_region_held3 (fun w' => w'.cell? ⟨W.heap.size, 0, none⟩ = some (.int .i64 x0_0) ∧ w'.cell? ⟨W.heap.size, 1, none⟩ = some (.int .i64 x0_1) ∧ w'.cell? ⟨W.heap.size, 2, none⟩ = some (.int .i64 x0_2) ∧ w'.cell? ⟨W.heap.size, 3, none⟩ = some (.int .i64 x0_3) ∧ w'.cell? ⟨W.heap.size, 4, none⟩ = some (.int .i64 x0_4) ∧ w'.cell? ⟨w4.heap.size, 0, none⟩ = some (.int .i64 x1_0) ∧ w'.cell? ⟨w4.heap.size, 1, none⟩ = some (.slice A4_1' l1_1.length c4_1'))
    (first
      | exact HK0.out
      | exact HK1.out
      | exact HK2.out)
    (first
      | (go_at_call_of 10 (Value.int IntKind.i64 x0_0); refine (toLimits_any x0_0 x0_1 x0_2 x0_3 x0_4   _  ).mono ?_; rintro e w5 ⟨rfl, hb⟩; have HX := HE0.out.up hb; clear hb; have HE1 := Lib.hid HX; clear HX; have HK1 := Lib.hid (ten (HE1.out.c5 (.tail _ (.tail _ (.tail _ (.head _))))) (HE1.out.c2 (.head _))))
      | (go_at_call 12; refine (implTcOk_any x0_0 x0_1 x0_2 x0_3 x0_4 x1_0 _ l1_1 _  (HE1.out.slE HV4_1.out (.tail _ (.head _)))  ).mono ?_; rw [← HB0.out]; rintro e w6 ⟨rfl, hb⟩; have HX := HE1.out.up hb; clear hb; have HE2 := Lib.hid HX; clear HX; have HK2 := Lib.hid (ten (HE2.out.c5 (.tail _ (.tail _ (.tail _ (.head _))))) (HE2.out.c2 (.head _)))))
  clear H b11_0 b11_1 b12_0 b12_1 b13_0 b13_1 b13_2 b13_3 b13_4
  have H := HE2.out
  clear HE0 HK0 HE1 HK1 HE2 HK2
  obtain ⟨b14_0, b14_1⟩ := H.c2 (.head _)
  obtain ⟨b15_0, b15_1⟩ := H.c2 (.tail _ (.tail _ (.head _)))
  obtain ⟨b16_0, b16_1, b16_2, b16_3, b16_4⟩ := H.c5 (.tail _ (.tail _ (.tail _ (.head _))))
  have HE0 := Lib.hid (H.drewN 1)
  have HK0 := Lib.hid (ten2 (HE0.out.c2 (.head _)) (HE0.out.c2 (.tail _ (.tail _ (.head _)))))
  go_wp2_with fail
  go_region_held3 (fun w' => w'.cell? ⟨w4.heap.size, 0, none⟩ = some (.int .i64 x1_0) ∧ w'.cell? ⟨w4.heap.size, 1, none⟩ = some (.slice A4_1' l1_1.length c4_1') ∧ w'.cell? ⟨W.heap.size + 1, 0, none⟩ = some (.int .i64 x1_0) ∧ w'.cell? ⟨W.heap.size + 1, 1, none⟩ = some (.slice A1_1 l1_1.length c1_1))
    (first
      | exact HK0.out
      | exact HK1.out
      | exact HK2.out)
    (first
      | (go_at_call_of 11 (Value.int IntKind.i64 x1_0); refine (toTc_any x1_0 _ l1_1 _ (hs1_1.up HE0.out.bel) hL1_1 hN1_1).mono ?_; rintro e w7 ⟨u7_1, vs7_1, rfl, hv7_1, K⟩; have HV7_1 := Lib.hid hv7_1; obtain ⟨A7_1', c7_1', rfl⟩ := K.openE hv7_1 (.head _); clear hv7_1; have HT := HE0.out.moreF K; clear K; have HX : InvF W w7 [segE (.slice A7_1' l1_1.length c7_1') vs7_1 l1_1, segX 33 w4.heap.size [.int .i64 x1_0, (.slice A4_1' l1_1.length c4_1')], segE (.slice A4_1' l1_1.length c4_1') vs4_1 l1_1, segX 26 (W.heap.size + 1) [.int .i64 x1_0, (.slice A1_1 l1_1.length c1_1)], segX 23 W.heap.size [.int .i64 x0_0, .int .i64 x0_1, .int .i64 x0_2, .int .i64 x0_3, .int .i64 x0_4]] := HT; clear HT; have HE1 := Lib.hid HX; clear HX; have HK1 := Lib.hid (ten2 (HE1.out.c2 (.tail _ (.head _))) (HE1.out.c2 (.tail _ (.tail _ (.tail _ (.head _)))))))
      | (go_at_call 13; refine (eqTc_any x1_0 _ _ l1_1 _ (HE1.out.slE HV4_1.out (.tail _ (.tail _ (.head _)))) (HE1.out.slE HV7_1.out (.head _))).mono ?_; rintro e w8 ⟨rfl, hb⟩; have HX := HE1.out.up hb; clear hb; have HE2 := Lib.hid HX; clear HX; have HK2 := Lib.hid (ten2 (HE2.out.c2 (.tail _ (.head _))) (HE2.out.c2 (.tail _ (.tail _ (.tail _ (.head _))))))))
  clear H b14_0 b14_1 b15_0 b15_1 b16_0 b16_1 b16_2 b16_3 b16_4
  have H := HE2.out
  clear HE0 HK0 HE1 HK1 HE2 HK2
  replace H := H.sub (qs := [segX 33 w4.heap.size [.int .i64 x1_0, (.slice A4_1' l1_1.length c4_1')], segE (.slice A4_1' l1_1.length c4_1') vs4_1 l1_1, segX 26 (W.heap.size + 1) [.int .i64 x1_0, (.slice A1_1 l1_1.length c1_1)], segX 23 W.heap.size [.int .i64 x0_0, .int .i64 x0_1, .int .i64 x0_2, .int .i64 x0_3, .int .i64 x0_4]]) (.cons _ (.cons_cons _ (.cons_cons _ (.cons_cons _ (.cons_cons _ .slnil)))))
  obtain ⟨b17_0, b17_1⟩ := H.c2 (.head _)
  obtain ⟨b18_0, b18_1⟩ := H.c2 (.tail _ (.tail _ (.head _)))
  obtain ⟨b19_0, b19_1, b19_2, b19_3, b19_4⟩ := H.c5 (.tail _ (.tail _ (.tail _ (.head _))))
  go_wp2_with fail
  go_ret
  exact ⟨rfl, by have hfin := H.bel; simpa using hfin⟩
end Go.Proofs.Ytickneafppbegaa
