/- The walk of the exact law of InclOk: for every argument the law answers true and leaves all memory that was there as it was. -/
import Derived.Test.YtopbalemfljphaaIncl
import Derived.Test.YtopbalemfljphaaInclOkS
import Derived.Test.YtopbalemfljphaaInclOk
import Derived.Deep.RegionHeld3
namespace Go.Proofs.Ytopbalemfljphaa
open Go.ChangeShapes Go.WideShapes Go.ChangeAt Go.RowKit

set_option maxRecDepth 100000 in
set_option maxHeartbeats 8000000 in
theorem InclOk_walk (x0_0 x0_1 x0_2 x0_3 x0_4 : Int) (x1_0 x1_1 x1_2 : Int) (v1_3 v1_4 : Value) (l1_3 : List UInt8) (l1_4 : List (List UInt8)) (W : World) (h1_3 : Sl W W.heap.size v1_3 l1_3) (h1_4 : SlS W W.heap.size v1_4 l1_4)  :
    Calls Try.prog 6 #[.agg #[.int .i64 x0_0, .int .i64 x0_1, .int .i64 x0_2, .int .i64 x0_3, .int .i64 x0_4], .agg #[.int .i64 x1_0, .int .i64 x1_1, .int .i64 x1_2, v1_3, v1_4]] W (Yes W) := by
  have hs1_3 := h1_3
  obtain ⟨A1_3, c1_3, rfl, p1_3, q1_3, r1_3, z1_3⟩ := h1_3
  unfold maxLen at q1_3
  clear r1_3 z1_3
  have hs1_4 := h1_4
  obtain ⟨A1_4, c1_4, rfl, p1_4, q1_4, r1_4, z1_4⟩ := h1_4
  unfold maxLen at q1_4
  clear r1_4 z1_4
  by_cases hbig : (1048576 : Int) < (l1_3.length : Int) + (l1_4.length : Int) + (sumL l1_4 : Int)
  · have HZ0 : Hid (szIZ l1_3 l1_4 (1048576 : Int) = -1) := Lib.hid (by exact szIZ_big hbig)
    clear hbig
    have H : InvF W W [] := InvF.start W
    replace H := H.newG 23 #[.int .i64 x0_0, .int .i64 x0_1, .int .i64 x0_2, .int .i64 x0_3, .int .i64 x0_4] (W.heap.size)
    replace H := H.newG 51 #[.int .i64 x1_0, .int .i64 x1_1, .int .i64 x1_2, .slice A1_3 l1_3.length c1_3, .slice A1_4 l1_4.length c1_4] (W.heap.size + 1)
    replace H : InvF W _ [segX 51 (W.heap.size + 1) [.int .i64 x1_0, .int .i64 x1_1, .int .i64 x1_2, (.slice A1_3 l1_3.length c1_3), (.slice A1_4 l1_4.length c1_4)], segX 23 W.heap.size [.int .i64 x0_0, .int .i64 x0_1, .int .i64 x0_2, .int .i64 x0_3, .int .i64 x0_4]] := H
    go_enter Try.func6, Try.ntmps6
    obtain ⟨b1_0, b1_1, b1_2, b1_3, b1_4⟩ := H.c5 (.head _)
    obtain ⟨b2_0, b2_1, b2_2, b2_3, b2_4⟩ := H.c5 (.tail _ (.head _))
    go_wp2_with fail
    refine (szIncl_any x1_0 x1_1 x1_2 _ _ l1_3 l1_4 1048576 _ (hs1_3.up H.bel) (hs1_4.up H.bel) (by omega) (by omega)).mono ?_
    rw [HZ0.out]
    rintro e wz0 ⟨rfl, hb⟩
    replace H := H.up hb
    clear hb
    clear b1_0 b1_1 b1_2 b1_3 b1_4 b2_0 b2_1 b2_2 b2_3 b2_4
    obtain ⟨b3_0, b3_1, b3_2, b3_3, b3_4⟩ := H.c5 (.head _)
    obtain ⟨b4_0, b4_1, b4_2, b4_3, b4_4⟩ := H.c5 (.tail _ (.head _))
    go_wp2
    go_ret
    exact ⟨rfl, H.bel⟩
  obtain ⟨zz0, hz⟩ : ∃ z, z = (1048576 : Int) - ((l1_3.length : Int) + (l1_4.length : Int) + (sumL l1_4 : Int)) := ⟨_, rfl⟩
  have HZ0 : Hid (szIZ l1_3 l1_4 (1048576 : Int) = zz0) := Lib.hid (by rw [hz]; exact szIZ_ok hbig)
  have hzlo0 : 0 ≤ zz0 := by omega
  have hzhi0 : zz0 ≤ 1048576 := by omega
  have hzn0 : ¬ (zz0 < 0) := by omega
  have hL1_3 : l1_3.length ≤ 1048576 := by omega
  have hL1_4 : l1_4.length ≤ 1048576 := by omega
  have hN1_4 : sumL l1_4 ≤ 1048576 := by omega
  have hT1 : l1_3.length + l1_4.length + sumL l1_4 ≤ 1048576 := by omega
  clear hbig hz
  obtain ⟨b0, hB⟩ : ∃ b, b = inclB x0_0 x0_1 x0_2 x0_3 x0_4 x1_0 x1_1 x1_2 l1_3 l1_4 := ⟨_, rfl⟩
  have HB0 := Lib.hid hB
  clear hB
  have hbb0 : (b0 != b0) = false := by simp
  have H : InvF W W [] := InvF.start W
  replace H := H.newG 23 #[.int .i64 x0_0, .int .i64 x0_1, .int .i64 x0_2, .int .i64 x0_3, .int .i64 x0_4] (W.heap.size)
  replace H := H.newG 51 #[.int .i64 x1_0, .int .i64 x1_1, .int .i64 x1_2, .slice A1_3 l1_3.length c1_3, .slice A1_4 l1_4.length c1_4] (W.heap.size + 1)
  replace H : InvF W _ [segX 51 (W.heap.size + 1) [.int .i64 x1_0, .int .i64 x1_1, .int .i64 x1_2, (.slice A1_3 l1_3.length c1_3), (.slice A1_4 l1_4.length c1_4)], segX 23 W.heap.size [.int .i64 x0_0, .int .i64 x0_1, .int .i64 x0_2, .int .i64 x0_3, .int .i64 x0_4]] := H
  go_enter Try.func6, Try.ntmps6
  obtain ⟨b5_0, b5_1, b5_2, b5_3, b5_4⟩ := H.c5 (.head _)
  obtain ⟨b6_0, b6_1, b6_2, b6_3, b6_4⟩ := H.c5 (.tail _ (.head _))
  go_wp2_with fail
  refine (szIncl_any x1_0 x1_1 x1_2 _ _ l1_3 l1_4 1048576 _ (hs1_3.up H.bel) (hs1_4.up H.bel) (by omega) (by omega)).mono ?_
  rw [HZ0.out]
  rintro e wz0 ⟨rfl, hb⟩
  replace H := H.up hb
  clear hb
  clear b5_0 b5_1 b5_2 b5_3 b5_4 b6_0 b6_1 b6_2 b6_3 b6_4
  obtain ⟨b7_0, b7_1, b7_2, b7_3, b7_4⟩ := H.c5 (.head _)
  obtain ⟨b8_0, b8_1, b8_2, b8_3, b8_4⟩ := H.c5 (.tail _ (.head _))
  have HE0 := Lib.hid (H.drewN 1)
  have HK0 := Lib.hid (ten (HE0.out.c5 (.tail _ (.head _))) (HE0.out.c5 (.head _)))
  go_wp2_with fail
  go_region_held3 (fun w' => w'.cell? ⟨W.heap.size, 0, none⟩ = some (.int .i64 x0_0) ∧ w'.cell? ⟨W.heap.size, 1, none⟩ = some (.int .i64 x0_1) ∧ w'.cell? ⟨W.heap.size, 2, none⟩ = some (.int .i64 x0_2) ∧ w'.cell? ⟨W.heap.size, 3, none⟩ = some (.int .i64 x0_3) ∧ w'.cell? ⟨W.heap.size, 4, none⟩ = some (.int .i64 x0_4) ∧ w'.cell? ⟨W.heap.size + 1, 0, none⟩ = some (.int .i64 x1_0) ∧ w'.cell? ⟨W.heap.size + 1, 1, none⟩ = some (.int .i64 x1_1) ∧ w'.cell? ⟨W.heap.size + 1, 2, none⟩ = some (.int .i64 x1_2) ∧ w'.cell? ⟨W.heap.size + 1, 3, none⟩ = some (.slice A1_3 l1_3.length c1_3) ∧ w'.cell? ⟨W.heap.size + 1, 4, none⟩ = some (.slice A1_4 l1_4.length c1_4))
    (first
      | exact HK0.out
      | exact HK1.out
      | exact HK2.out
      | exact HK3.out)
    (first
      | (go_at_call_of 11 (Value.int IntKind.i64 x0_0); refine (toLimits_any x0_0 x0_1 x0_2 x0_3 x0_4   _  ).mono ?_; rintro e w1 ⟨rfl, hb⟩; have HX := HE0.out.up hb; clear hb; have HE1 := Lib.hid HX; clear HX; have HK1 := Lib.hid (ten (HE1.out.c5 (.tail _ (.head _))) (HE1.out.c5 (.head _))))
      | (go_at_call_of 26 (Value.int IntKind.i64 x1_0); refine (toIncl_any x1_0 x1_1 x1_2 _ _ l1_3 l1_4 _ (hs1_3.up HE1.out.bel) (hs1_4.up HE1.out.bel) hL1_3 hL1_4 hN1_4).mono ?_; rintro e w2 ⟨u2_3, u2_4, vs2_4, rfl, hv2_4, K⟩; have HV2_4 := Lib.hid hv2_4; obtain ⟨A2_3', c2_3', rfl⟩ := K.openB' (.head _); obtain ⟨A2_4', c2_4', rfl⟩ := K.openS hv2_4 (.tail _ (.head _)); clear hv2_4; have HT := HE1.out.moreF K; clear K; have HX : InvF W w2 [segB 5 (.slice A2_3' l1_3.length c2_3') l1_3, segS 25 5 (.slice A2_4' l1_4.length c2_4') vs2_4 l1_4, segX 51 (W.heap.size + 1) [.int .i64 x1_0, .int .i64 x1_1, .int .i64 x1_2, (.slice A1_3 l1_3.length c1_3), (.slice A1_4 l1_4.length c1_4)], segX 23 W.heap.size [.int .i64 x0_0, .int .i64 x0_1, .int .i64 x0_2, .int .i64 x0_3, .int .i64 x0_4]] := HT; clear HT; have HE2 := Lib.hid HX; clear HX; have HK2 := Lib.hid (ten (HE2.out.c5 (.tail _ (.tail _ (.tail _ (.head _))))) (HE2.out.c5 (.tail _ (.tail _ (.head _))))))
      | (go_at_call 25; refine (specInclOk_any x0_0 x0_1 x0_2 x0_3 x0_4 x1_0 x1_1 x1_2 _ _ l1_3 l1_4 _  (HE2.out.slB 5 (.head _)) (HE2.out.slS 25 5 HV2_4.out (.tail _ (.head _)))  ).mono ?_; rw [← HB0.out]; rintro e w3 ⟨rfl, hb⟩; have HX := HE2.out.up hb; clear hb; have HE3 := Lib.hid HX; clear HX; have HK3 := Lib.hid (ten (HE3.out.c5 (.tail _ (.tail _ (.tail _ (.head _))))) (HE3.out.c5 (.tail _ (.tail _ (.head _)))))))
  clear H b7_0 b7_1 b7_2 b7_3 b7_4 b8_0 b8_1 b8_2 b8_3 b8_4
  have H := HE3.out
  clear HE0 HK0 HE1 HK1 HE2 HK2 HE3 HK3
  replace H := H.sub (qs := [segX 51 (W.heap.size + 1) [.int .i64 x1_0, .int .i64 x1_1, .int .i64 x1_2, (.slice A1_3 l1_3.length c1_3), (.slice A1_4 l1_4.length c1_4)], segX 23 W.heap.size [.int .i64 x0_0, .int .i64 x0_1, .int .i64 x0_2, .int .i64 x0_3, .int .i64 x0_4]]) (.cons _ (.cons _ (.cons_cons _ (.cons_cons _ .slnil))))
  obtain ⟨b9_0, b9_1, b9_2, b9_3, b9_4⟩ := H.c5 (.head _)
  obtain ⟨b10_0, b10_1, b10_2, b10_3, b10_4⟩ := H.c5 (.tail _ (.head _))
  go_wp2_with fail
  refine (toIncl_any x1_0 x1_1 x1_2 _ _ l1_3 l1_4 _ (hs1_3.up H.bel) (hs1_4.up H.bel) hL1_3 hL1_4 hN1_4).mono ?_
  rintro e w4 ⟨u4_3, u4_4, vs4_4, rfl, hv4_4, K⟩
  have HV4_4 := Lib.hid hv4_4
  obtain ⟨A4_3', c4_3', rfl⟩ := K.openB' (.head _)
  obtain ⟨A4_4', c4_4', rfl⟩ := K.openS hv4_4 (.tail _ (.head _))
  clear hv4_4
  have HT := H.moreF K
  clear K
  replace H : InvF W w4 [segB 5 (.slice A4_3' l1_3.length c4_3') l1_3, segS 25 5 (.slice A4_4' l1_4.length c4_4') vs4_4 l1_4, segX 51 (W.heap.size + 1) [.int .i64 x1_0, .int .i64 x1_1, .int .i64 x1_2, (.slice A1_3 l1_3.length c1_3), (.slice A1_4 l1_4.length c1_4)], segX 23 W.heap.size [.int .i64 x0_0, .int .i64 x0_1, .int .i64 x0_2, .int .i64 x0_3, .int .i64 x0_4]] := HT
  clear HT
  replace H := H.newX 54 #[.int .i64 x1_0, .int .i64 x1_1, .int .i64 x1_2, (.slice A4_3' l1_3.length c4_3'), (.slice A4_4' l1_4.length c4_4')]
  replace H : InvF W _ [segX 54 w4.heap.size [.int .i64 x1_0, .int .i64 x1_1, .int .i64 x1_2, (.slice A4_3' l1_3.length c4_3'), (.slice A4_4' l1_4.length c4_4')], segB 5 (.slice A4_3' l1_3.length c4_3') l1_3, segS 25 5 (.slice A4_4' l1_4.length c4_4') vs4_4 l1_4, segX 51 (W.heap.size + 1) [.int .i64 x1_0, .int .i64 x1_1, .int .i64 x1_2, (.slice A1_3 l1_3.length c1_3), (.slice A1_4 l1_4.length c1_4)], segX 23 W.heap.size [.int .i64 x0_0, .int .i64 x0_1, .int .i64 x0_2, .int .i64 x0_3, .int .i64 x0_4]] := H
  clear b9_0 b9_1 b9_2 b9_3 b9_4 b10_0 b10_1 b10_2 b10_3 b10_4
  obtain ⟨b11_0, b11_1, b11_2, b11_3, b11_4⟩ := H.c5 (.head _)
  obtain ⟨b12_0, b12_1, b12_2, b12_3, b12_4⟩ := H.c5 (.tail _ (.tail _ (.tail _ (.head _))))
  obtain ⟨b13_0, b13_1, b13_2, b13_3, b13_4⟩ := H.c5 (.tail _ (.tail _ (.tail _ (.tail _ (.head _)))))
  have HE0 := Lib.hid (H.drewN 1)
  have HK0 := Lib.hid (ten (HE0.out.c5 (.tail _ (.tail _ (.tail _ (.tail _ (.head _)))))) (HE0.out.c5 (.head _)))
  go_wp2_with fail
  go_region_held3 (fun w' => w'.cell? ⟨W.heap.size, 0, none⟩ = some (.int .i64 x0_0) ∧ w'.cell? ⟨W.heap.size, 1, none⟩ = some (.int .i64 x0_1) ∧ w'.cell? ⟨W.heap.size, 2, none⟩ = some (.int .i64 x0_2) ∧ w'.cell? ⟨W.heap.size, 3, none⟩ = some (.int .i64 x0_3) ∧ w'.cell? ⟨W.heap.size, 4, none⟩ = some (.int .i64 x0_4) ∧ w'.cell? ⟨w4.heap.size, 0, none⟩ = some (.int .i64 x1_0) ∧ w'.cell? ⟨w4.heap.size, 1, none⟩ = some (.int .i64 x1_1) ∧ w'.cell? ⟨w4.heap.size, 2, none⟩ = some (.int .i64 x1_2) ∧ w'.cell? ⟨w4.heap.size, 3, none⟩ = some (.slice A4_3' l1_3.length c4_3') ∧ w'.cell? ⟨w4.heap.size, 4, none⟩ = some (.slice A4_4' l1_4.length c4_4'))
    (first
      | exact HK0.out
      | exact HK1.out
      | exact HK2.out)
    (first
      | (go_at_call_of 11 (Value.int IntKind.i64 x0_0); refine (toLimits_any x0_0 x0_1 x0_2 x0_3 x0_4   _  ).mono ?_; rintro e w5 ⟨rfl, hb⟩; have HX := HE0.out.up hb; clear hb; have HE1 := Lib.hid HX; clear HX; have HK1 := Lib.hid (ten (HE1.out.c5 (.tail _ (.tail _ (.tail _ (.tail _ (.head _)))))) (HE1.out.c5 (.head _))))
      | (go_at_call 27; refine (implInclOk_any x0_0 x0_1 x0_2 x0_3 x0_4 x1_0 x1_1 x1_2 _ _ l1_3 l1_4 _  (HE1.out.slB 5 (.tail _ (.head _))) (HE1.out.slS 25 5 HV4_4.out (.tail _ (.tail _ (.head _))))  ).mono ?_; rw [← HB0.out]; rintro e w6 ⟨rfl, hb⟩; have HX := HE1.out.up hb; clear hb; have HE2 := Lib.hid HX; clear HX; have HK2 := Lib.hid (ten (HE2.out.c5 (.tail _ (.tail _ (.tail _ (.tail _ (.head _)))))) (HE2.out.c5 (.head _)))))
  clear H b11_0 b11_1 b11_2 b11_3 b11_4 b12_0 b12_1 b12_2 b12_3 b12_4 b13_0 b13_1 b13_2 b13_3 b13_4
  have H := HE2.out
  clear HE0 HK0 HE1 HK1 HE2 HK2
  obtain ⟨b14_0, b14_1, b14_2, b14_3, b14_4⟩ := H.c5 (.head _)
  obtain ⟨b15_0, b15_1, b15_2, b15_3, b15_4⟩ := H.c5 (.tail _ (.tail _ (.tail _ (.head _))))
  obtain ⟨b16_0, b16_1, b16_2, b16_3, b16_4⟩ := H.c5 (.tail _ (.tail _ (.tail _ (.tail _ (.head _)))))
  have HE0 := Lib.hid (H.drewN 1)
  have HK0 := Lib.hid (ten (HE0.out.c5 (.head _)) (HE0.out.c5 (.tail _ (.tail _ (.tail _ (.head _))))))
  go_wp2_with fail
  go_region_held3 (fun w' => w'.cell? ⟨w4.heap.size, 0, none⟩ = some (.int .i64 x1_0) ∧ w'.cell? ⟨w4.heap.size, 1, none⟩ = some (.int .i64 x1_1) ∧ w'.cell? ⟨w4.heap.size, 2, none⟩ = some (.int .i64 x1_2) ∧ w'.cell? ⟨w4.heap.size, 3, none⟩ = some (.slice A4_3' l1_3.length c4_3') ∧ w'.cell? ⟨w4.heap.size, 4, none⟩ = some (.slice A4_4' l1_4.length c4_4') ∧ w'.cell? ⟨W.heap.size + 1, 0, none⟩ = some (.int .i64 x1_0) ∧ w'.cell? ⟨W.heap.size + 1, 1, none⟩ = some (.int .i64 x1_1) ∧ w'.cell? ⟨W.heap.size + 1, 2, none⟩ = some (.int .i64 x1_2) ∧ w'.cell? ⟨W.heap.size + 1, 3, none⟩ = some (.slice A1_3 l1_3.length c1_3) ∧ w'.cell? ⟨W.heap.size + 1, 4, none⟩ = some (.slice A1_4 l1_4.length c1_4))
    (first
      | exact HK0.out
      | exact HK1.out
      | exact HK2.out)
    (first
      | (go_at_call_of 26 (Value.int IntKind.i64 x1_0); refine (toIncl_any x1_0 x1_1 x1_2 _ _ l1_3 l1_4 _ (hs1_3.up HE0.out.bel) (hs1_4.up HE0.out.bel) hL1_3 hL1_4 hN1_4).mono ?_; rintro e w7 ⟨u7_3, u7_4, vs7_4, rfl, hv7_4, K⟩; have HV7_4 := Lib.hid hv7_4; obtain ⟨A7_3', c7_3', rfl⟩ := K.openB' (.head _); obtain ⟨A7_4', c7_4', rfl⟩ := K.openS hv7_4 (.tail _ (.head _)); clear hv7_4; have HT := HE0.out.moreF K; clear K; have HX : InvF W w7 [segB 5 (.slice A7_3' l1_3.length c7_3') l1_3, segS 25 5 (.slice A7_4' l1_4.length c7_4') vs7_4 l1_4, segX 54 w4.heap.size [.int .i64 x1_0, .int .i64 x1_1, .int .i64 x1_2, (.slice A4_3' l1_3.length c4_3'), (.slice A4_4' l1_4.length c4_4')], segB 5 (.slice A4_3' l1_3.length c4_3') l1_3, segS 25 5 (.slice A4_4' l1_4.length c4_4') vs4_4 l1_4, segX 51 (W.heap.size + 1) [.int .i64 x1_0, .int .i64 x1_1, .int .i64 x1_2, (.slice A1_3 l1_3.length c1_3), (.slice A1_4 l1_4.length c1_4)], segX 23 W.heap.size [.int .i64 x0_0, .int .i64 x0_1, .int .i64 x0_2, .int .i64 x0_3, .int .i64 x0_4]] := HT; clear HT; have HE1 := Lib.hid HX; clear HX; have HK1 := Lib.hid (ten (HE1.out.c5 (.tail _ (.tail _ (.head _)))) (HE1.out.c5 (.tail _ (.tail _ (.tail _ (.tail _ (.tail _ (.head _)))))))))
      | (go_at_call 28; refine (eqIncl_any x1_0 x1_1 x1_2 _ _ _ _ l1_3 l1_4 _ (HE1.out.slB 5 (.tail _ (.tail _ (.tail _ (.head _))))) (HE1.out.slS 25 5 HV4_4.out (.tail _ (.tail _ (.tail _ (.tail _ (.head _)))))) (HE1.out.slB 5 (.head _)) (HE1.out.slS 25 5 HV7_4.out (.tail _ (.head _)))).mono ?_; rintro e w8 ⟨rfl, hb⟩; have HX := HE1.out.up hb; clear hb; have HE2 := Lib.hid HX; clear HX; have HK2 := Lib.hid (ten (HE2.out.c5 (.tail _ (.tail _ (.head _)))) (HE2.out.c5 (.tail _ (.tail _ (.tail _ (.tail _ (.tail _ (.head _))))))))))
  clear H b14_0 b14_1 b14_2 b14_3 b14_4 b15_0 b15_1 b15_2 b15_3 b15_4 b16_0 b16_1 b16_2 b16_3 b16_4
  have H := HE2.out
  clear HE0 HK0 HE1 HK1 HE2 HK2
  replace H := H.sub (qs := [segX 54 w4.heap.size [.int .i64 x1_0, .int .i64 x1_1, .int .i64 x1_2, (.slice A4_3' l1_3.length c4_3'), (.slice A4_4' l1_4.length c4_4')], segB 5 (.slice A4_3' l1_3.length c4_3') l1_3, segS 25 5 (.slice A4_4' l1_4.length c4_4') vs4_4 l1_4, segX 51 (W.heap.size + 1) [.int .i64 x1_0, .int .i64 x1_1, .int .i64 x1_2, (.slice A1_3 l1_3.length c1_3), (.slice A1_4 l1_4.length c1_4)], segX 23 W.heap.size [.int .i64 x0_0, .int .i64 x0_1, .int .i64 x0_2, .int .i64 x0_3, .int .i64 x0_4]]) (.cons _ (.cons _ (.cons_cons _ (.cons_cons _ (.cons_cons _ (.cons_cons _ (.cons_cons _ .slnil)))))))
  obtain ⟨b17_0, b17_1, b17_2, b17_3, b17_4⟩ := H.c5 (.head _)
  obtain ⟨b18_0, b18_1, b18_2, b18_3, b18_4⟩ := H.c5 (.tail _ (.tail _ (.tail _ (.head _))))
  obtain ⟨b19_0, b19_1, b19_2, b19_3, b19_4⟩ := H.c5 (.tail _ (.tail _ (.tail _ (.tail _ (.head _)))))
  go_wp2_with fail
  go_ret
  exact ⟨rfl, by have hfin := H.bel; simpa using hfin⟩
end Go.Proofs.Ytopbalemfljphaa
