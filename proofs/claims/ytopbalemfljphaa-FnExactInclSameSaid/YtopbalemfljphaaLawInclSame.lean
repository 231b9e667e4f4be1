/- The walk of the exact law of InclSame: for every argument the law answers true and leaves all memory that was there as it was. -/
import Derived.Test.YtopbalemfljphaaIncl
import Derived.Test.YtopbalemfljphaaInclOkS
import Derived.Test.YtopbalemfljphaaInclOk
import Derived.Deep.RegionHeld3
namespace Go.Proofs.Ytopbalemfljphaa
open Go.ChangeShapes Go.WideShapes Go.ChangeAt Go.RowKit

set_option maxRecDepth 100000 in
set_option maxHeartbeats 8000000 in
theorem InclSame_walk (x0_0 x0_1 x0_2 : Int) (v0_3 v0_4 : Value) (l0_3 : List UInt8) (l0_4 : List (List UInt8)) (x1_0 x1_1 x1_2 : Int) (v1_3 v1_4 : Value) (l1_3 : List UInt8) (l1_4 : List (List UInt8)) (W : World) (h0_3 : Sl W W.heap.size v0_3 l0_3) (h0_4 : SlS W W.heap.size v0_4 l0_4) (h1_3 : Sl W W.heap.size v1_3 l1_3) (h1_4 : SlS W W.heap.size v1_4 l1_4)  :
    Calls Try.prog 7 #[.agg #[.int .i64 x0_0, .int .i64 x0_1, .int .i64 x0_2, v0_3, v0_4], .agg #[.int .i64 x1_0, .int .i64 x1_1, .int .i64 x1_2, v1_3, v1_4]] W (Yes W) := by
  have hs0_3 := h0_3
  obtain ⟨A0_3, c0_3, rfl, p0_3, q0_3, r0_3, z0_3⟩ := h0_3
  unfold maxLen at q0_3
  clear r0_3 z0_3
  have hs0_4 := h0_4
  obtain ⟨A0_4, c0_4, rfl, p0_4, q0_4, r0_4, z0_4⟩ := h0_4
  unfold maxLen at q0_4
  clear r0_4 z0_4
  have hs1_3 := h1_3
  obtain ⟨A1_3, c1_3, rfl, p1_3, q1_3, r1_3, z1_3⟩ := h1_3
  unfold maxLen at q1_3
  clear r1_3 z1_3
  have hs1_4 := h1_4
  obtain ⟨A1_4, c1_4, rfl, p1_4, q1_4, r1_4, z1_4⟩ := h1_4
  unfold maxLen at q1_4
  clear r1_4 z1_4
  by_cases hbig : (1048576 : Int) < (l0_3.length : Int) + (l0_4.length : Int) + (sumL l0_4 : Int)
  · have HZ0 : Hid (szIZ l0_3 l0_4 (1048576 : Int) = -1) := Lib.hid (by exact szIZ_big hbig)
    clear hbig
    have H : InvF W W [] := InvF.start W
    replace H := H.newG 51 #[.int .i64 x0_0, .int .i64 x0_1, .int .i64 x0_2, .slice A0_3 l0_3.length c0_3, .slice A0_4 l0_4.length c0_4] (W.heap.size)
    replace H := H.newG 51 #[.int .i64 x1_0, .int .i64 x1_1, .int .i64 x1_2, .slice A1_3 l1_3.length c1_3, .slice A1_4 l1_4.length c1_4] (W.heap.size + 1)
    replace H : InvF W _ [segX 51 (W.heap.size + 1) [.int .i64 x1_0, .int .i64 x1_1, .int .i64 x1_2, (.slice A1_3 l1_3.length c1_3), (.slice A1_4 l1_4.length c1_4)], segX 51 W.heap.size [.int .i64 x0_0, .int .i64 x0_1, .int .i64 x0_2, (.slice A0_3 l0_3.length c0_3), (.slice A0_4 l0_4.length c0_4)]] := H
    go_enter Try.func7, Try.ntmps7
    obtain ⟨b1_0, b1_1, b1_2, b1_3, b1_4⟩ := H.c5 (.head _)
    obtain ⟨b2_0, b2_1, b2_2, b2_3, b2_4⟩ := H.c5 (.tail _ (.head _))
    go_wp2_with fail
    refine (szIncl_any x0_0 x0_1 x0_2 _ _ l0_3 l0_4 1048576 _ (hs0_3.up H.bel) (hs0_4.up H.bel) (by omega) (by omega)).mono ?_
    rw [HZ0.out]
    rintro e wz0 ⟨rfl, hb⟩
    replace H := H.up hb
    clear hb
    clear b1_0 b1_1 b1_2 b1_3 b1_4 b2_0 b2_1 b2_2 b2_3 b2_4
    obtain ⟨b3_0, b3_1, b3_2, b3_3, b3_4⟩ := H.c5 (.head _)
    obtain ⟨b4_0, b4_1, b4_2, b4_3, b4_4⟩ := H.c5 (.tail _ (.head _))
    go_wp2
    go_ret
    exact ⟨rfl, H.bel⟩
  obtain ⟨zz0, hz⟩ : ∃ z, z = (1048576 : Int) - ((l0_3.length : Int) + (l0_4.length : Int) + (sumL l0_4 : Int)) := ⟨_, rfl⟩
  have HZ0 : Hid (szIZ l0_3 l0_4 (1048576 : Int) = zz0) := Lib.hid (by rw [hz]; exact szIZ_ok hbig)
  have hzlo0 : 0 ≤ zz0 := by omega
  have hzhi0 : zz0 ≤ 1048576 := by omega
  have hzn0 : ¬ (zz0 < 0) := by omega
  have hL0_3 : l0_3.length ≤ 1048576 := by omega
  have hL0_4 : l0_4.length ≤ 1048576 := by omega
  have hN0_4 : sumL l0_4 ≤ 1048576 := by omega
  have hT0 : l0_3.length + l0_4.length + sumL l0_4 ≤ 1048576 := by omega
  clear hbig hz
  by_cases hbig : zz0 < (l1_3.length : Int) + (l1_4.length : Int) + (sumL l1_4 : Int)
  · have HZ1 : Hid (szIZ l1_3 l1_4 zz0 = -1) := Lib.hid (by exact szIZ_big hbig)
    clear hbig
    have H : InvF W W [] := InvF.start W
    replace H := H.newG 51 #[.int .i64 x0_0, .int .i64 x0_1, .int .i64 x0_2, .slice A0_3 l0_3.length c0_3, .slice A0_4 l0_4.length c0_4] (W.heap.size)
    replace H := H.newG 51 #[.int .i64 x1_0, .int .i64 x1_1, .int .i64 x1_2, .slice A1_3 l1_3.length c1_3, .slice A1_4 l1_4.length c1_4] (W.heap.size + 1)
    replace H : InvF W _ [segX 51 (W.heap.size + 1) [.int .i64 x1_0, .int .i64 x1_1, .int .i64 x1_2, (.slice A1_3 l1_3.length c1_3), (.slice A1_4 l1_4.length c1_4)], segX 51 W.heap.size [.int .i64 x0_0, .int .i64 x0_1, .int .i64 x0_2, (.slice A0_3 l0_3.length c0_3), (.slice A0_4 l0_4.length c0_4)]] := H
    go_enter Try.func7, Try.ntmps7
    obtain ⟨b5_0, b5_1, b5_2, b5_3, b5_4⟩ := H.c5 (.head _)
    obtain ⟨b6_0, b6_1, b6_2, b6_3, b6_4⟩ := H.c5 (.tail _ (.head _))
    go_wp2_with fail
    refine (szIncl_any x0_0 x0_1 x0_2 _ _ l0_3 l0_4 1048576 _ (hs0_3.up H.bel) (hs0_4.up H.bel) (by omega) (by omega)).mono ?_
    rw [HZ0.out]
    rintro e wz0 ⟨rfl, hb⟩
    replace H := H.up hb
    clear hb
    clear b5_0 b5_1 b5_2 b5_3 b5_4 b6_0 b6_1 b6_2 b6_3 b6_4
    obtain ⟨b7_0, b7_1, b7_2, b7_3, b7_4⟩ := H.c5 (.head _)
    obtain ⟨b8_0, b8_1, b8_2, b8_3, b8_4⟩ := H.c5 (.tail _ (.head _))
    go_wp2_with fail
    refine (szIncl_any x1_0 x1_1 x1_2 _ _ l1_3 l1_4 zz0 _ (hs1_3.up H.bel) (hs1_4.up H.bel) (by omega) (by omega)).mono ?_
    rw [HZ1.out]
    rintro e wz1 ⟨rfl, hb⟩
    replace H := H.up hb
    clear hb
    clear b7_0 b7_1 b7_2 b7_3 b7_4 b8_0 b8_1 b8_2 b8_3 b8_4
    obtain ⟨b9_0, b9_1, b9_2, b9_3, b9_4⟩ := H.c5 (.head _)
    obtain ⟨b10_0, b10_1, b10_2, b10_3, b10_4⟩ := H.c5 (.tail _ (.head _))
    go_wp2
    go_ret
    exact ⟨rfl, H.bel⟩
  obtain ⟨zz1, hz⟩ : ∃ z, z = zz0 - ((l1_3.length : Int) + (l1_4.length : Int) + (sumL l1_4 : Int)) := ⟨_, rfl⟩
  have HZ1 : Hid (szIZ l1_3 l1_4 zz0 = zz1) := Lib.hid (by rw [hz]; exact szIZ_ok hbig)
  have hzlo1 : 0 ≤ zz1 := by omega
  have hzhi1 : zz1 ≤ 1048576 := by omega
  have hzn1 : ¬ (zz1 < 0) := by omega
  have hL1_3 : l1_3.length ≤ 1048576 := by omega
  have hL1_4 : l1_4.length ≤ 1048576 := by omega
  have hN1_4 : sumL l1_4 ≤ 1048576 := by omega
  have hT1 : l1_3.length + l1_4.length + sumL l1_4 ≤ 1048576 := by omega
  clear hbig hz
  obtain ⟨b0, hB⟩ : ∃ b, b = sameIB x0_0 x0_1 x0_2 l0_3 l0_4 x1_0 x1_1 x1_2 l1_3 l1_4 := ⟨_, rfl⟩
  have HB0 := Lib.hid hB
  clear hB
  have hbb0 : (b0 != b0) = false := by simp
  have H : InvF W W [] := InvF.start W
  replace H := H.newG 51 #[.int .i64 x0_0, .int .i64 x0_1, .int .i64 x0_2, .slice A0_3 l0_3.length c0_3, .slice A0_4 l0_4.length c0_4] (W.heap.size)
  replace H := H.newG 51 #[.int .i64 x1_0, .int .i64 x1_1, .int .i64 x1_2, .slice A1_3 l1_3.length c1_3, .slice A1_4 l1_4.length c1_4] (W.heap.size + 1)
  replace H : InvF W _ [segX 51 (W.heap.size + 1) [.int .i64 x1_0, .int .i64 x1_1, .int .i64 x1_2, (.slice A1_3 l1_3.length c1_3), (.slice A1_4 l1_4.length c1_4)], segX 51 W.heap.size [.int .i64 x0_0, .int .i64 x0_1, .int .i64 x0_2, (.slice A0_3 l0_3.length c0_3), (.slice A0_4 l0_4.length c0_4)]] := H
  go_enter Try.func7, Try.ntmps7
  obtain ⟨b11_0, b11_1, b11_2, b11_3, b11_4⟩ := H.c5 (.head _)
  obtain ⟨b12_0, b12_1, b12_2, b12_3, b12_4⟩ := H.c5 (.tail _ (.head _))
  go_wp2_with fail
  refine (szIncl_any x0_0 x0_1 x0_2 _ _ l0_3 l0_4 1048576 _ (hs0_3.up H.bel) (hs0_4.up H.bel) (by omega) (by omega)).mono ?_
  rw [HZ0.out]
  rintro e wz0 ⟨rfl, hb⟩
  replace H := H.up hb
  clear hb
  clear b11_0 b11_1 b11_2 b11_3 b11_4 b12_0 b12_1 b12_2 b12_3 b12_4
  obtain ⟨b13_0, b13_1, b13_2, b13_3, b13_4⟩ := H.c5 (.head _)
  obtain ⟨b14_0, b14_1, b14_2, b14_3, b14_4⟩ := H.c5 (.tail _ (.head _))
  go_wp2_with fail
  refine (szIncl_any x1_0 x1_1 x1_2 _ _ l1_3 l1_4 zz0 _ (hs1_3.up H.bel) (hs1_4.up H.bel) (by omega) (by omega)).mono ?_
  rw [HZ1.out]
  rintro e wz1 ⟨rfl, hb⟩
  replace H := H.up hb
  clear hb
  clear b13_0 b13_1 b13_2 b13_3 b13_4 b14_0 b14_1 b14_2 b14_3 b14_4
  obtain ⟨b15_0, b15_1, b15_2, b15_3, b15_4⟩ := H.c5 (.head _)
  obtain ⟨b16_0, b16_1, b16_2, b16_3, b16_4⟩ := H.c5 (.tail _ (.head _))
  have HE0 := Lib.hid (H.drewN 1)
  have HK0 := Lib.hid (ten (HE0.out.c5 (.tail _ (.head _))) (HE0.out.c5 (.head _)))
  go_wp2_with fail
  go_region_held3 (fun w' => w'.cell? ⟨W.heap.size, 0, none⟩ = some (.int .i64 x0_0) ∧ w'.cell? ⟨W.heap.size, 1, none⟩ = some (.int .i64 x0_1) ∧ w'.cell? ⟨W.heap.size, 2, none⟩ = some (.int .i64 x0_2) ∧ w'.cell? ⟨W.heap.size, 3, none⟩ = some (.slice A0_3 l0_3.length c0_3) ∧ w'.cell? ⟨W.heap.size, 4, none⟩ = some (.slice A0_4 l0_4.length c0_4) ∧ w'.cell? ⟨W.heap.size + 1, 0, none⟩ = some (.int .i64 x1_0) ∧ w'.cell? ⟨W.heap.size + 1, 1, none⟩ = some (.int .i64 x1_1) ∧ w'.cell? ⟨W.heap.size + 1, 2, none⟩ = some (.int .i64 x1_2) ∧ w'.cell? ⟨W.heap.size + 1, 3, none⟩ = some (.slice A1_3 l1_3.length c1_3) ∧ w'.cell? ⟨W.heap.size + 1, 4, none⟩ = some (.slice A1_4 l1_4.length c1_4))
    (first
      | exact HK0.out
      | exact HK1.out
      | exact HK2.out
      | exact HK3.out)
    (first
      | (go_at_call_of 26 (Value.int IntKind.i64 x0_0); refine (toIncl_any x0_0 x0_1 x0_2 _ _ l0_3 l0_4 _ (hs0_3.up HE0.out.bel) (hs0_4.up HE0.out.bel) hL0_3 hL0_4 hN0_4).mono ?_; rintro e w1 ⟨u1_3, u1_4, vs1_4, rfl, hv1_4, K⟩; have HV1_4 := Lib.hid hv1_4; obtain ⟨A1_3', c1_3', rfl⟩ := K.openB' (.head _); obtain ⟨A1_4', c1_4', rfl⟩ := K.openS hv1_4 (.tail _ (.head _)); clear hv1_4; have HT := HE0.out.moreF K; clear K; have HX : InvF W w1 [segB 5 (.slice A1_3' l0_3.length c1_3') l0_3, segS 25 5 (.slice A1_4' l0_4.length c1_4') vs1_4 l0_4, segX 51 (W.heap.size + 1) [.int .i64 x1_0, .int .i64 x1_1, .int .i64 x1_2, (.slice A1_3 l1_3.length c1_3), (.slice A1_4 l1_4.length c1_4)], segX 51 W.heap.size [.int .i64 x0_0, .int .i64 x0_1, .int .i64 x0_2, (.slice A0_3 l0_3.length c0_3), (.slice A0_4 l0_4.length c0_4)]] := HT; clear HT; have HE1 := Lib.hid HX; clear HX; have HK1 := Lib.hid (ten (HE1.out.c5 (.tail _ (.tail _ (.tail _ (.head _))))) (HE1.out.c5 (.tail _ (.tail _ (.head _))))))
      | (go_at_call_of 26 (Value.int IntKind.i64 x1_0); refine (toIncl_any x1_0 x1_1 x1_2 _ _ l1_3 l1_4 _ (hs1_3.up HE1.out.bel) (hs1_4.up HE1.out.bel) hL1_3 hL1_4 hN1_4).mono ?_; rintro e w2 ⟨u2_3, u2_4, vs2_4, rfl, hv2_4, K⟩; have HV2_4 := Lib.hid hv2_4; obtain ⟨A2_3', c2_3', rfl⟩ := K.openB' (.head _); obtain ⟨A2_4', c2_4', rfl⟩ := K.openS hv2_4 (.tail _ (.head _)); clear hv2_4; have HT := HE1.out.moreF K; clear K; have HX : InvF W w2 [segB 5 (.slice A2_3' l1_3.length c2_3') l1_3, segS 25 5 (.slice A2_4' l1_4.length c2_4') vs2_4 l1_4, segB 5 (.slice A1_3' l0_3.length c1_3') l0_3, segS 25 5 (.slice A1_4' l0_4.length c1_4') vs1_4 l0_4, segX 51 (W.heap.size + 1) [.int .i64 x1_0, .int .i64 x1_1, .int .i64 x1_2, (.slice A1_3 l1_3.length c1_3), (.slice A1_4 l1_4.length c1_4)], segX 51 W.heap.size [.int .i64 x0_0, .int .i64 x0_1, .int .i64 x0_2, (.slice A0_3 l0_3.length c0_3), (.slice A0_4 l0_4.length c0_4)]] := HT; clear HT; have HE2 := Lib.hid HX; clear HX; have HK2 := Lib.hid (ten (HE2.out.c5 (.tail _ (.tail _ (.tail _ (.tail _ (.tail _ (.head _))))))) (HE2.out.c5 (.tail _ (.tail _ (.tail _ (.tail _ (.head _))))))))
      | (go_at_call 29; refine (specInclSame_any x0_0 x0_1 x0_2 x1_0 x1_1 x1_2 _ _ _ _ l0_3 l0_4 l1_3 l1_4 _ (HE2.out.slB 5 (.tail _ (.tail _ (.head _)))) (HE2.out.slS 25 5 HV1_4.out (.tail _ (.tail _ (.tail _ (.head _))))) (HE2.out.slB 5 (.head _)) (HE2.out.slS 25 5 HV2_4.out (.tail _ (.head _)))  ).mono ?_; rw [← HB0.out]; rintro e w3 ⟨rfl, hb⟩; have HX := HE2.out.up hb; clear hb; have HE3 := Lib.hid HX; clear HX; have HK3 := Lib.hid (ten (HE3.out.c5 (.tail _ (.tail _ (.tail _ (.tail _ (.tail _ (.head _))))))) (HE3.out.c5 (.tail _ (.tail _ (.tail _ (.tail _ (.head _)))))))))
  clear H b15_0 b15_1 b15_2 b15_3 b15_4 b16_0 b16_1 b16_2 b16_3 b16_4
  have H := HE3.out
  clear HE0 HK0 HE1 HK1 HE2 HK2 HE3 HK3
  replace H := H.sub (qs := [segX 51 (W.heap.size + 1) [.int .i64 x1_0, .int .i64 x1_1, .int .i64 x1_2, (.slice A1_3 l1_3.length c1_3), (.slice A1_4 l1_4.length c1_4)], segX 51 W.heap.size [.int .i64 x0_0, .int .i64 x0_1, .int .i64 x0_2, (.slice A0_3 l0_3.length c0_3), (.slice A0_4 l0_4.length c0_4)]]) (.cons _ (.cons _ (.cons _ (.cons _ (.cons_cons _ (.cons_cons _ .slnil))))))
  obtain ⟨b17_0, b17_1, b17_2, b17_3, b17_4⟩ := H.c5 (.head _)
  obtain ⟨b18_0, b18_1, b18_2, b18_3, b18_4⟩ := H.c5 (.tail _ (.head _))
  go_wp2_with fail
  refine (toIncl_any x0_0 x0_1 x0_2 _ _ l0_3 l0_4 _ (hs0_3.up H.bel) (hs0_4.up H.bel) hL0_3 hL0_4 hN0_4).mono ?_
  rintro e w4 ⟨u4_3, u4_4, vs4_4, rfl, hv4_4, K⟩
  have HV4_4 := Lib.hid hv4_4
  obtain ⟨A4_3', c4_3', rfl⟩ := K.openB' (.head _)
  obtain ⟨A4_4', c4_4', rfl⟩ := K.openS hv4_4 (.tail _ (.head _))
  clear hv4_4
  have HT := H.moreF K
  clear K
  replace H : InvF W w4 [segB 5 (.slice A4_3' l0_3.length c4_3') l0_3, segS 25 5 (.slice A4_4' l0_4.length c4_4') vs4_4 l0_4, segX 51 (W.heap.size + 1) [.int .i64 x1_0, .int .i64 x1_1, .int .i64 x1_2, (.slice A1_3 l1_3.length c1_3), (.slice A1_4 l1_4.length c1_4)], segX 51 W.heap.size [.int .i64 x0_0, .int .i64 x0_1, .int .i64 x0_2, (.slice A0_3 l0_3.length c0_3), (.slice A0_4 l0_4.length c0_4)]] := HT
  clear HT
  replace H := H.newX 54 #[.int .i64 x0_0, .int .i64 x0_1, .int .i64 x0_2, (.slice A4_3' l0_3.length c4_3'), (.slice A4_4' l0_4.length c4_4')]
  replace H : InvF W _ [segX 54 w4.heap.size [.int .i64 x0_0, .int .i64 x0_1, .int .i64 x0_2, (.slice A4_3' l0_3.length c4_3'), (.slice A4_4' l0_4.length c4_4')], segB 5 (.slice A4_3' l0_3.length c4_3') l0_3, segS 25 5 (.slice A4_4' l0_4.length c4_4') vs4_4 l0_4, segX 51 (W.heap.size + 1) [.int .i64 x1_0, .int .i64 x1_1, .int .i64 x1_2, (.slice A1_3 l1_3.length c1_3), (.slice A1_4 l1_4.length c1_4)], segX 51 W.heap.size [.int .i64 x0_0, .int .i64 x0_1, .int .i64 x0_2, (.slice A0_3 l0_3.length c0_3), (.slice A0_4 l0_4.length c0_4)]] := H
  clear b17_0 b17_1 b17_2 b17_3 b17_4 b18_0 b18_1 b18_2 b18_3 b18_4
  obtain ⟨b19_0, b19_1, b19_2, b19_3, b19_4⟩ := H.c5 (.head _)
  obtain ⟨b20_0, b20_1, b20_2, b20_3, b20_4⟩ := H.c5 (.tail _ (.tail _ (.tail _ (.head _))))
  obtain ⟨b21_0, b21_1, b21_2, b21_3, b21_4⟩ := H.c5 (.tail _ (.tail _ (.tail _ (.tail _ (.head _)))))
  go_wp2_with fail
  refine (toIncl_any x1_0 x1_1 x1_2 _ _ l1_3 l1_4 _ (hs1_3.up H.bel) (hs1_4.up H.bel) hL1_3 hL1_4 hN1_4).mono ?_
  rintro e w5 ⟨u5_3, u5_4, vs5_4, rfl, hv5_4, K⟩
  have HV5_4 := Lib.hid hv5_4
  obtain ⟨A5_3', c5_3', rfl⟩ := K.openB' (.head _)
  obtain ⟨A5_4', c5_4', rfl⟩ := K.openS hv5_4 (.tail _ (.head _))
  clear hv5_4
  have HT := H.moreF K
  clear K
  replace H : InvF W w5 [segB 5 (.slice A5_3' l1_3.length c5_3') l1_3, segS 25 5 (.slice A5_4' l1_4.length c5_4') vs5_4 l1_4, segX 54 w4.heap.size [.int .i64 x0_0, .int .i64 x0_1, .int .i64 x0_2, (.slice A4_3' l0_3.length c4_3'), (.slice A4_4' l0_4.length c4_4')], segB 5 (.slice A4_3' l0_3.length c4_3') l0_3, segS 25 5 (.slice A4_4' l0_4.length c4_4') vs4_4 l0_4, segX 51 (W.heap.size + 1) [.int .i64 x1_0, .int .i64 x1_1, .int .i64 x1_2, (.slice A1_3 l1_3.length c1_3), (.slice A1_4 l1_4.length c1_4)], segX 51 W.heap.size [.int .i64 x0_0, .int .i64 x0_1, .int .i64 x0_2, (.slice A0_3 l0_3.length c0_3), (.slice A0_4 l0_4.length c0_4)]] := HT
  clear HT
  replace H := H.newX 54 #[.int .i64 x1_0, .int .i64 x1_1, .int .i64 x1_2, (.slice A5_3' l1_3.length c5_3'), (.slice A5_4' l1_4.length c5_4')]
  replace H : InvF W _ [segX 54 w5.heap.size [.int .i64 x1_0, .int .i64 x1_1, .int .i64 x1_2, (.slice A5_3' l1_3.length c5_3'), (.slice A5_4' l1_4.length c5_4')], segB 5 (.slice A5_3' l1_3.length c5_3') l1_3, segS 25 5 (.slice A5_4' l1_4.length c5_4') vs5_4 l1_4, segX 54 w4.heap.size [.int .i64 x0_0, .int .i64 x0_1, .int .i64 x0_2, (.slice A4_3' l0_3.length c4_3'), (.slice A4_4' l0_4.length c4_4')], segB 5 (.slice A4_3' l0_3.length c4_3') l0_3, segS 25 5 (.slice A4_4' l0_4.length c4_4') vs4_4 l0_4, segX 51 (W.heap.size + 1) [.int .i64 x1_0, .int .i64 x1_1, .int .i64 x1_2, (.slice A1_3 l1_3.length c1_3), (.slice A1_4 l1_4.length c1_4)], segX 51 W.heap.size [.int .i64 x0_0, .int .i64 x0_1, .int .i64 x0_2, (.slice A0_3 l0_3.length c0_3), (.slice A0_4 l0_4.length c0_4)]] := H
  clear b19_0 b19_1 b19_2 b19_3 b19_4 b20_0 b20_1 b20_2 b20_3 b20_4 b21_0 b21_1 b21_2 b21_3 b21_4
  obtain ⟨b22_0, b22_1, b22_2, b22_3, b22_4⟩ := H.c5 (.head _)
  obtain ⟨b23_0, b23_1, b23_2, b23_3, b23_4⟩ := H.c5 (.tail _ (.tail _ (.tail _ (.head _))))
  obtain ⟨b24_0, b24_1, b24_2, b24_3, b24_4⟩ := H.c5 (.tail _ (.tail _ (.tail _ (.tail _ (.tail _ (.tail _ (.head _)))))))
  obtain ⟨b25_0, b25_1, b25_2, b25_3, b25_4⟩ := H.c5 (.tail _ (.tail _ (.tail _ (.tail _ (.tail _ (.tail _ (.tail _ (.head _))))))))
  go_wp2_with fail
  refine (implInclSame_any x0_0 x0_1 x0_2 x1_0 x1_1 x1_2 _ _ _ _ l0_3 l0_4 l1_3 l1_4 _ (H.slB 5 (.tail _ (.tail _ (.tail _ (.tail _ (.head _)))))) (H.slS 25 5 HV4_4.out (.tail _ (.tail _ (.tail _ (.tail _ (.tail _ (.head _))))))) (H.slB 5 (.tail _ (.head _))) (H.slS 25 5 HV5_4.out (.tail _ (.tail _ (.head _))))  ).mono ?_
  rw [← HB0.out]
  rintro e w6 ⟨rfl, hb⟩
  replace H := H.up hb
  clear hb
  clear b22_0 b22_1 b22_2 b22_3 b22_4 b23_0 b23_1 b23_2 b23_3 b23_4 b24_0 b24_1 b24_2 b24_3 b24_4 b25_0 b25_1 b25_2 b25_3 b25_4
  obtain ⟨b26_0, b26_1, b26_2, b26_3, b26_4⟩ := H.c5 (.head _)
  obtain ⟨b27_0, b27_1, b27_2, b27_3, b27_4⟩ := H.c5 (.tail _ (.tail _ (.tail _ (.head _))))
  obtain ⟨b28_0, b28_1, b28_2, b28_3, b28_4⟩ := H.c5 (.tail _ (.tail _ (.tail _ (.tail _ (.tail _ (.tail _ (.head _)))))))
  obtain ⟨b29_0, b29_1, b29_2, b29_3, b29_4⟩ := H.c5 (.tail _ (.tail _ (.tail _ (.tail _ (.tail _ (.tail _ (.tail _ (.head _))))))))
  have HE0 := Lib.hid (H.drewN 1)
  have HK0 := Lib.hid (ten (HE0.out.c5 (.tail _ (.tail _ (.tail _ (.head _))))) (HE0.out.c5 (.tail _ (.tail _ (.tail _ (.tail _ (.tail _ (.tail _ (.tail _ (.head _))))))))))
  go_wp2_with fail
  go_region_held3 (fun w' => w'.cell? ⟨w4.heap.size, 0, none⟩ = some (.int .i64 x0_0) ∧ w'.cell? ⟨w4.heap.size, 1, none⟩ = some (.int .i64 x0_1) ∧ w'.cell? ⟨w4.heap.size, 2, none⟩ = some (.int .i64 x0_2) ∧ w'.cell? ⟨w4.heap.size, 3, none⟩ = some (.slice A4_3' l0_3.length c4_3') ∧ w'.cell? ⟨w4.heap.size, 4, none⟩ = some (.slice A4_4' l0_4.length c4_4') ∧ w'.cell? ⟨W.heap.size, 0, none⟩ = some (.int .i64 x0_0) ∧ w'.cell? ⟨W.heap.size, 1, none⟩ = some (.int .i64 x0_1) ∧ w'.cell? ⟨W.heap.size, 2, none⟩ = some (.int .i64 x0_2) ∧ w'.cell? ⟨W.heap.size, 3, none⟩ = some (.slice A0_3 l0_3.length c0_3) ∧ w'.cell? ⟨W.heap.size, 4, none⟩ = some (.slice A0_4 l0_4.length c0_4))
    (first
      | exact HK0.out
      | exact HK1.out
      | exact HK2.out)
    (first
      | (go_at_call_of 26 (Value.int IntKind.i64 x0_0); refine (toIncl_any x0_0 x0_1 x0_2 _ _ l0_3 l0_4 _ (hs0_3.up HE0.out.bel) (hs0_4.up HE0.out.bel) hL0_3 hL0_4 hN0_4).mono ?_; rintro e w7 ⟨u7_3, u7_4, vs7_4, rfl, hv7_4, K⟩; have HV7_4 := Lib.hid hv7_4; obtain ⟨A7_3', c7_3', rfl⟩ := K.openB' (.head _); obtain ⟨A7_4', c7_4', rfl⟩ := K.openS hv7_4 (.tail _ (.head _)); clear hv7_4; have HT := HE0.out.moreF K; clear K; have HX : InvF W w7 [segB 5 (.slice A7_3' l0_3.length c7_3') l0_3, segS 25 5 (.slice A7_4' l0_4.length c7_4') vs7_4 l0_4, segX 54 w5.heap.size [.int .i64 x1_0, .int .i64 x1_1, .int .i64 x1_2, (.slice A5_3' l1_3.length c5_3'), (.slice A5_4' l1_4.length c5_4')], segB 5 (.slice A5_3' l1_3.length c5_3') l1_3, segS 25 5 (.slice A5_4' l1_4.length c5_4') vs5_4 l1_4, segX 54 w4.heap.size [.int .i64 x0_0, .int .i64 x0_1, .int .i64 x0_2, (.slice A4_3' l0_3.length c4_3'), (.slice A4_4' l0_4.length c4_4')], segB 5 (.slice A4_3' l0_3.length c4_3') l0_3, segS 25 5 (.slice A4_4' l0_4.length c4_4') vs4_4 l0_4, segX 51 (W.heap.size + 1) [.int .i64 x1_0, .int .i64 x1_1, .int .i64 x1_2, (.slice A1_3 l1_3.length c1_3), (.slice A1_4 l1_4.length c1_4)], segX 51 W.heap.size [.int .i64 x0_0, .int .i64 x0_1, .int .i64 x0_2, (.slice A0_3 l0_3.length c0_3), (.slice A0_4 l0_4.length c0_4)]] := HT; clear HT; have HE1 := Lib.hid HX; clear HX; have HK1 := Lib.hid (ten (HE1.out.c5 (.tail _ (.tail _ (.tail _ (.tail _ (.tail _ (.head _))))))) (HE1.out.c5 (.tail _ (.tail _ (.tail _ (.tail _ (.tail _ (.tail _ (.tail _ (.tail _ (.tail _ (.head _)))))))))))))
      | (go_at_call 28; refine (eqIncl_any x0_0 x0_1 x0_2 _ _ _ _ l0_3 l0_4 _ (HE1.out.slB 5 (.tail _ (.tail _ (.tail _ (.tail _ (.tail _ (.tail _ (.head _)))))))) (HE1.out.slS 25 5 HV4_4.out (.tail _ (.tail _ (.tail _ (.tail _ (.tail _ (.tail _ (.tail _ (.head _))))))))) (HE1.out.slB 5 (.head _)) (HE1.out.slS 25 5 HV7_4.out (.tail _ (.head _)))).mono ?_; rintro e w8 ⟨rfl, hb⟩; have HX := HE1.out.up hb; clear hb; have HE2 := Lib.hid HX; clear HX; have HK2 := Lib.hid (ten (HE2.out.c5 (.tail _ (.tail _ (.tail _ (.tail _ (.tail _ (.head _))))))) (HE2.out.c5 (.tail _ (.tail _ (.tail _ (.tail _ (.tail _ (.tail _ (.tail _ (.tail _ (.tail _ (.head _))))))))))))))
  clear H b26_0 b26_1 b26_2 b26_3 b26_4 b27_0 b27_1 b27_2 b27_3 b27_4 b28_0 b28_1 b28_2 b28_3 b28_4 b29_0 b29_1 b29_2 b29_3 b29_4
  have H := HE2.out
  clear HE0 HK0 HE1 HK1 HE2 HK2
  replace H := H.sub (qs := [segX 54 w5.heap.size [.int .i64 x1_0, .int .i64 x1_1, .int .i64 x1_2, (.slice A5_3' l1_3.length c5_3'), (.slice A5_4' l1_4.length c5_4')], segB 5 (.slice A5_3' l1_3.length c5_3') l1_3, segS 25 5 (.slice A5_4' l1_4.length c5_4') vs5_4 l1_4, segX 54 w4.heap.size [.int .i64 x0_0, .int .i64 x0_1, .int .i64 x0_2, (.slice A4_3' l0_3.length c4_3'), (.slice A4_4' l0_4.length c4_4')], segB 5 (.slice A4_3' l0_3.length c4_3') l0_3, segS 25 5 (.slice A4_4' l0_4.length c4_4') vs4_4 l0_4, segX 51 (W.heap.size + 1) [.int .i64 x1_0, .int .i64 x1_1, .int .i64 x1_2, (.slice A1_3 l1_3.length c1_3), (.slice A1_4 l1_4.length c1_4)], segX 51 W.heap.size [.int .i64 x0_0, .int .i64 x0_1, .int .i64 x0_2, (.slice A0_3 l0_3.length c0_3), (.slice A0_4 l0_4.length c0_4)]]) (.cons _ (.cons _ (.cons_cons _ (.cons_cons _ (.cons_cons _ (.cons_cons _ (.cons_cons _ (.cons_cons _ (.cons_cons _ (.cons_cons _ .slnil))))))))))
  obtain ⟨b30_0, b30_1, b30_2, b30_3, b30_4⟩ := H.c5 (.head _)
  obtain ⟨b31_0, b31_1, b31_2, b31_3, b31_4⟩ := H.c5 (.tail _ (.tail _ (.tail _ (.head _))))
  obtain ⟨b32_0, b32_1, b32_2, b32_3, b32_4⟩ := H.c5 (.tail _ (.tail _ (.tail _ (.tail _ (.tail _ (.tail _ (.head _)))))))
  obtain ⟨b33_0, b33_1, b33_2, b33_3, b33_4⟩ := H.c5 (.tail _ (.tail _ (.tail _ (.tail _ (.tail _ (.tail _ (.tail _ (.head _))))))))
  have HE0 := Lib.hid (H.drewN 1)
  have HK0 := Lib.hid (ten (HE0.out.c5 (.head _)) (HE0.out.c5 (.tail _ (.tail _ (.tail _ (.tail _ (.tail _ (.tail _ (.head _)))))))))
  go_wp2_with fail
  go_region_held3 (fun w' => w'.cell? ⟨w5.heap.size, 0, none⟩ = some (.int .i64 x1_0) ∧ w'.cell? ⟨w5.heap.size, 1, none⟩ = some (.int .i64 x1_1) ∧ w'.cell? ⟨w5.heap.size, 2, none⟩ = some (.int .i64 x1_2) ∧ w'.cell? ⟨w5.heap.size, 3, none⟩ = some (.slice A5_3' l1_3.length c5_3') ∧ w'.cell? ⟨w5.heap.size, 4, none⟩ = some (.slice A5_4' l1_4.length c5_4') ∧ w'.cell? ⟨W.heap.size + 1, 0, none⟩ = some (.int .i64 x1_0) ∧ w'.cell? ⟨W.heap.size + 1, 1, none⟩ = some (.int .i64 x1_1) ∧ w'.cell? ⟨W.heap.size + 1, 2, none⟩ = some (.int .i64 x1_2) ∧ w'.cell? ⟨W.heap.size + 1, 3, none⟩ = some (.slice A1_3 l1_3.length c1_3) ∧ w'.cell? ⟨W.heap.size + 1, 4, none⟩ = some (.slice A1_4 l1_4.length c1_4))
    (first
      | exact HK0.out
      | exact HK1.out
      | exact HK2.out)
    (first
      | (go_at_call_of 26 (Value.int IntKind.i64 x1_0); refine (toIncl_any x1_0 x1_1 x1_2 _ _ l1_3 l1_4 _ (hs1_3.up HE0.out.bel) (hs1_4.up HE0.out.bel) hL1_3 hL1_4 hN1_4).mono ?_; rintro e w9 ⟨u9_3, u9_4, vs9_4, rfl, hv9_4, K⟩; have HV9_4 := Lib.hid hv9_4; obtain ⟨A9_3', c9_3', rfl⟩ := K.openB' (.head _); obtain ⟨A9_4', c9_4', rfl⟩ := K.openS hv9_4 (.tail _ (.head _)); clear hv9_4; have HT := HE0.out.moreF K; clear K; have HX : InvF W w9 [segB 5 (.slice A9_3' l1_3.length c9_3') l1_3, segS 25 5 (.slice A9_4' l1_4.length c9_4') vs9_4 l1_4, segX 54 w5.heap.size [.int .i64 x1_0, .int .i64 x1_1, .int .i64 x1_2, (.slice A5_3' l1_3.length c5_3'), (.slice A5_4' l1_4.length c5_4')], segB 5 (.slice A5_3' l1_3.length c5_3') l1_3, segS 25 5 (.slice A5_4' l1_4.length c5_4') vs5_4 l1_4, segX 54 w4.heap.size [.int .i64 x0_0, .int .i64 x0_1, .int .i64 x0_2, (.slice A4_3' l0_3.length c4_3'), (.slice A4_4' l0_4.length c4_4')], segB 5 (.slice A4_3' l0_3.length c4_3') l0_3, segS 25 5 (.slice A4_4' l0_4.length c4_4') vs4_4 l0_4, segX 51 (W.heap.size + 1) [.int .i64 x1_0, .int .i64 x1_1, .int .i64 x1_2, (.slice A1_3 l1_3.length c1_3), (.slice A1_4 l1_4.length c1_4)], segX 51 W.heap.size [.int .i64 x0_0, .int .i64 x0_1, .int .i64 x0_2, (.slice A0_3 l0_3.length c0_3), (.slice A0_4 l0_4.length c0_4)]] := HT; clear HT; have HE1 := Lib.hid HX; clear HX; have HK1 := Lib.hid (ten (HE1.out.c5 (.tail _ (.tail _ (.head _)))) (HE1.out.c5 (.tail _ (.tail _ (.tail _ (.tail _ (.tail _ (.tail _ (.tail _ (.tail _ (.head _))))))))))))
      | (go_at_call 28; refine (eqIncl_any x1_0 x1_1 x1_2 _ _ _ _ l1_3 l1_4 _ (HE1.out.slB 5 (.tail _ (.tail _ (.tail _ (.head _))))) (HE1.out.slS 25 5 HV5_4.out (.tail _ (.tail _ (.tail _ (.tail _ (.head _)))))) (HE1.out.slB 5 (.head _)) (HE1.out.slS 25 5 HV9_4.out (.tail _ (.head _)))).mono ?_; rintro e w10 ⟨rfl, hb⟩; have HX := HE1.out.up hb; clear hb; have HE2 := Lib.hid HX; clear HX; have HK2 := Lib.hid (ten (HE2.out.c5 (.tail _ (.tail _ (.head _)))) (HE2.out.c5 (.tail _ (.tail _ (.tail _ (.tail _ (.tail _ (.tail _ (.tail _ (.tail _ (.head _)))))))))))))
  clear H b30_0 b30_1 b30_2 b30_3 b30_4 b31_0 b31_1 b31_2 b31_3 b31_4 b32_0 b32_1 b32_2 b32_3 b32_4 b33_0 b33_1 b33_2 b33_3 b33_4
  have H := HE2.out
  clear HE0 HK0 HE1 HK1 HE2 HK2
  replace H := H.sub (qs := [segX 54 w5.heap.size [.int .i64 x1_0, .int .i64 x1_1, .int .i64 x1_2, (.slice A5_3' l1_3.length c5_3'), (.slice A5_4' l1_4.length c5_4')], segB 5 (.slice A5_3' l1_3.length c5_3') l1_3, segS 25 5 (.slice A5_4' l1_4.length c5_4') vs5_4 l1_4, segX 54 w4.heap.size [.int .i64 x0_0, .int .i64 x0_1, .int .i64 x0_2, (.slice A4_3' l0_3.length c4_3'), (.slice A4_4' l0_4.length c4_4')], segB 5 (.slice A4_3' l0_3.length c4_3') l0_3, segS 25 5 (.slice A4_4' l0_4.length c4_4') vs4_4 l0_4, segX 51 (W.heap.size + 1) [.int .i64 x1_0, .int .i64 x1_1, .int .i64 x1_2, (.slice A1_3 l1_3.length c1_3), (.slice A1_4 l1_4.length c1_4)], segX 51 W.heap.size [.int .i64 x0_0, .int .i64 x0_1, .int .i64 x0_2, (.slice A0_3 l0_3.length c0_3), (.slice A0_4 l0_4.length c0_4)]]) (.cons _ (.cons _ (.cons_cons _ (.cons_cons _ (.cons_cons _ (.cons_cons _ (.cons_cons _ (.cons_cons _ (.cons_cons _ (.cons_cons _ .slnil))))))))))
  obtain ⟨b34_0, b34_1, b34_2, b34_3, b34_4⟩ := H.c5 (.head _)
  obtain ⟨b35_0, b35_1, b35_2, b35_3, b35_4⟩ := H.c5 (.tail _ (.tail _ (.tail _ (.head _))))
  obtain ⟨b36_0, b36_1, b36_2, b36_3, b36_4⟩ := H.c5 (.tail _ (.tail _ (.tail _ (.tail _ (.tail _ (.tail _ (.head _)))))))
  obtain ⟨b37_0, b37_1, b37_2, b37_3, b37_4⟩ := H.c5 (.tail _ (.tail _ (.tail _ (.tail _ (.tail _ (.tail _ (.tail _ (.head _))))))))
  go_wp2_with fail
  go_ret
  exact ⟨rfl, by have hfin := H.bel; simpa using hfin⟩
end Go.Proofs.Ytopbalemfljphaa
