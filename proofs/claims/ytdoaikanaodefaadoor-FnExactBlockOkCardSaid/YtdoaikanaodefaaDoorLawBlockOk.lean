/- The walk of the exact law of BlockOk: for every argument the law answers true and leaves all memory that was there as it was. -/
import Derived.Test.YtdoaikanaodefaaDoorBlockOk
import Derived.Test.YtdoaikanaodefaaDoorBlockM
import Derived.Deep.RegionHeld3
namespace Go.Proofs.YtdoaikanaodefaaDoor
open Go.ChangeShapes Go.WideShapes Go.ChangeAt Go.RowKit

set_option maxRecDepth 100000 in
set_option maxHeartbeats 8000000 in
theorem BlockOk_walk (x0_0 x0_1 x0_2 x0_3 x0_4 : Int) (x1_0 x1_1 x1_2 x1_5 x1_6 : Int) (v1_3 v1_4 v1_7 v1_8 v1_9 v1_10 : Value) (l1_3 : List UInt8) (l1_4 : List UInt8) (l1_7 : List UInt8) (l1_8 : List UInt8) (l1_9 : List (List UInt8)) (l1_10 : List (List UInt8)) (W : World) (h1_3 : Sl W W.heap.size v1_3 l1_3) (h1_4 : Sl W W.heap.size v1_4 l1_4) (h1_7 : Sl W W.heap.size v1_7 l1_7) (h1_8 : Sl W W.heap.size v1_8 l1_8) (h1_9 : SlS W W.heap.size v1_9 l1_9) (h1_10 : SlS W W.heap.size v1_10 l1_10) (hgI : Glob W 0 initW) (hg : Glob W 1 kk) :
    Calls Tryd.prog 6 #[.agg #[.int .i64 x0_0, .int .i64 x0_1, .int .i64 x0_2, .int .i64 x0_3, .int .i64 x0_4], .agg #[.int .i64 x1_0, .int .i64 x1_1, .int .i64 x1_2, v1_3, v1_4, .int .i64 x1_5, .int .i64 x1_6, v1_7, v1_8, v1_9, v1_10]] W (Yes W) := by
  have hs1_3 := h1_3
  obtain ⟨A1_3, c1_3, rfl, p1_3, q1_3, r1_3, z1_3⟩ := h1_3
  unfold maxLen at q1_3
  clear r1_3 z1_3
  have hs1_4 := h1_4
  obtain ⟨A1_4, c1_4, rfl, p1_4, q1_4, r1_4, z1_4⟩ := h1_4
  unfold maxLen at q1_4
  clear r1_4 z1_4
  have hs1_7 := h1_7
  obtain ⟨A1_7, c1_7, rfl, p1_7, q1_7, r1_7, z1_7⟩ := h1_7
  unfold maxLen at q1_7
  clear r1_7 z1_7
  have hs1_8 := h1_8
  obtain ⟨A1_8, c1_8, rfl, p1_8, q1_8, r1_8, z1_8⟩ := h1_8
  unfold maxLen at q1_8
  clear r1_8 z1_8
  have hs1_9 := h1_9
  obtain ⟨A1_9, c1_9, rfl, p1_9, q1_9, r1_9, z1_9⟩ := h1_9
  unfold maxLen at q1_9
  clear r1_9 z1_9
  have hs1_10 := h1_10
  obtain ⟨A1_10, c1_10, rfl, p1_10, q1_10, r1_10, z1_10⟩ := h1_10
  unfold maxLen at q1_10
  clear r1_10 z1_10
  by_cases hbig : (1048576 : Int) < (l1_3.length : Int) + (l1_4.length : Int) + (l1_7.length : Int) + (l1_8.length : Int) + (l1_9.length : Int) + (sumL l1_9 : Int) + (l1_10.length : Int) + (sumL l1_10 : Int)
  · have HZ0 : Hid (szGZ l1_3 l1_4 l1_7 l1_8 l1_9 l1_10 (1048576 : Int) = -1) := Lib.hid (by exact szGZ_big hbig)
    clear hbig
    have H : InvF W W [] := InvF.start W
    replace H := H.newG 50 #[.int .i64 x0_0, .int .i64 x0_1, .int .i64 x0_2, .int .i64 x0_3, .int .i64 x0_4] (W.heap.size)
    replace H := H.newG 56 #[.int .i64 x1_0, .int .i64 x1_1, .int .i64 x1_2, .slice A1_3 l1_3.length c1_3, .slice A1_4 l1_4.length c1_4, .int .i64 x1_5, .int .i64 x1_6, .slice A1_7 l1_7.length c1_7, .slice A1_8 l1_8.length c1_8, .slice A1_9 l1_9.length c1_9, .slice A1_10 l1_10.length c1_10] (W.heap.size + 1)
    replace H : InvF W _ [segX 56 (W.heap.size + 1) [.int .i64 x1_0, .int .i64 x1_1, .int .i64 x1_2, (.slice A1_3 l1_3.length c1_3), (.slice A1_4 l1_4.length c1_4), .int .i64 x1_5, .int .i64 x1_6, (.slice A1_7 l1_7.length c1_7), (.slice A1_8 l1_8.length c1_8), (.slice A1_9 l1_9.length c1_9), (.slice A1_10 l1_10.length c1_10)], segX 50 W.heap.size [.int .i64 x0_0, .int .i64 x0_1, .int .i64 x0_2, .int .i64 x0_3, .int .i64 x0_4]] := H
    go_enter Tryd.func6, Tryd.ntmps6
    obtain ⟨b1_0, b1_1, b1_2, b1_3, b1_4, b1_5, b1_6, b1_7, b1_8, b1_9, b1_10⟩ := H.c11 (.head _)
    obtain ⟨b2_0, b2_1, b2_2, b2_3, b2_4⟩ := H.c5 (.tail _ (.head _))
    go_wp2_with fail
    refine (szBlock_any x1_0 x1_1 x1_2 x1_5 x1_6 _ _ _ _ _ _ l1_3 l1_4 l1_7 l1_8 l1_9 l1_10 1048576 _ (hs1_3.up H.bel) (hs1_4.up H.bel) (hs1_7.up H.bel) (hs1_8.up H.bel) (hs1_9.up H.bel) (hs1_10.up H.bel) (by omega) (by omega)).mono ?_
    rw [HZ0.out]
    rintro e wz0 ⟨rfl, hb⟩
    replace H := H.up hb
    clear hb
    clear b1_0 b1_1 b1_2 b1_3 b1_4 b1_5 b1_6 b1_7 b1_8 b1_9 b1_10 b2_0 b2_1 b2_2 b2_3 b2_4
    obtain ⟨b3_0, b3_1, b3_2, b3_3, b3_4, b3_5, b3_6, b3_7, b3_8, b3_9, b3_10⟩ := H.c11 (.head _)
    obtain ⟨b4_0, b4_1, b4_2, b4_3, b4_4⟩ := H.c5 (.tail _ (.head _))
    go_wp2
    go_ret
    exact ⟨rfl, H.bel⟩
  obtain ⟨zz0, hz⟩ : ∃ z, z = (1048576 : Int) - ((l1_3.length : Int) + (l1_4.length : Int) + (l1_7.length : Int) + (l1_8.length : Int) + (l1_9.length : Int) + (sumL l1_9 : Int) + (l1_10.length : Int) + (sumL l1_10 : Int)) := ⟨_, rfl⟩
  have HZ0 : Hid (szGZ l1_3 l1_4 l1_7 l1_8 l1_9 l1_10 (1048576 : Int) = zz0) := Lib.hid (by rw [hz]; exact szGZ_ok hbig)
  have hzlo0 : 0 ≤ zz0 := by omega
  have hzhi0 : zz0 ≤ 1048576 := by omega
  have hzn0 : ¬ (zz0 < 0) := by omega
  have hL1_3 : l1_3.length ≤ 1048576 := by omega
  have hL1_4 : l1_4.length ≤ 1048576 := by omega
  have hL1_7 : l1_7.length ≤ 1048576 := by omega
  have hL1_8 : l1_8.length ≤ 1048576 := by omega
  have hL1_9 : l1_9.length ≤ 1048576 := by omega
  have hN1_9 : sumL l1_9 ≤ 1048576 := by omega
  have hL1_10 : l1_10.length ≤ 1048576 := by omega
  have hN1_10 : sumL l1_10 ≤ 1048576 := by omega
  have hT1 : l1_3.length + l1_4.length + l1_7.length + l1_8.length + l1_9.length + sumL l1_9 + l1_10.length + sumL l1_10 ≤ 1048576 := by omega
  clear hbig hz
  obtain ⟨b0, hB⟩ : ∃ b, b = blockB x0_0 x0_1 x0_2 x0_3 x0_4 x1_0 x1_1 x1_2 x1_5 x1_6 l1_3 l1_4 l1_7 l1_8 l1_9 l1_10 := ⟨_, rfl⟩
  have HB0 := Lib.hid hB
  clear hB
  have hbb0 : (b0 != b0) = false := by simp
  have H : InvF W W [] := InvF.start W
  replace H := H.newG 50 #[.int .i64 x0_0, .int .i64 x0_1, .int .i64 x0_2, .int .i64 x0_3, .int .i64 x0_4] (W.heap.size)
  replace H := H.newG 56 #[.int .i64 x1_0, .int .i64 x1_1, .int .i64 x1_2, .slice A1_3 l1_3.length c1_3, .slice A1_4 l1_4.length c1_4, .int .i64 x1_5, .int .i64 x1_6, .slice A1_7 l1_7.length c1_7, .slice A1_8 l1_8.length c1_8, .slice A1_9 l1_9.length c1_9, .slice A1_10 l1_10.length c1_10] (W.heap.size + 1)
  replace H : InvF W _ [segX 56 (W.heap.size + 1) [.int .i64 x1_0, .int .i64 x1_1, .int .i64 x1_2, (.slice A1_3 l1_3.length c1_3), (.slice A1_4 l1_4.length c1_4), .int .i64 x1_5, .int .i64 x1_6, (.slice A1_7 l1_7.length c1_7), (.slice A1_8 l1_8.length c1_8), (.slice A1_9 l1_9.length c1_9), (.slice A1_10 l1_10.length c1_10)], segX 50 W.heap.size [.int .i64 x0_0, .int .i64 x0_1, .int .i64 x0_2, .int .i64 x0_3, .int .i64 x0_4]] := H
  go_enter Tryd.func6, Tryd.ntmps6
  obtain ⟨b5_0, b5_1, b5_2, b5_3, b5_4, b5_5, b5_6, b5_7, b5_8, b5_9, b5_10⟩ := H.c11 (.head _)
  obtain ⟨b6_0, b6_1, b6_2, b6_3, b6_4⟩ := H.c5 (.tail _ (.head _))
  go_wp2_with fail
  refine (szBlock_any x1_0 x1_1 x1_2 x1_5 x1_6 _ _ _ _ _ _ l1_3 l1_4 l1_7 l1_8 l1_9 l1_10 1048576 _ (hs1_3.up H.bel) (hs1_4.up H.bel) (hs1_7.up H.bel) (hs1_8.up H.bel) (hs1_9.up H.bel) (hs1_10.up H.bel) (by omega) (by omega)).mono ?_
  rw [HZ0.out]
  rintro e wz0 ⟨rfl, hb⟩
  replace H := H.up hb
  clear hb
  clear b5_0 b5_1 b5_2 b5_3 b5_4 b5_5 b5_6 b5_7 b5_8 b5_9 b5_10 b6_0 b6_1 b6_2 b6_3 b6_4
  obtain ⟨b7_0, b7_1, b7_2, b7_3, b7_4, b7_5, b7_6, b7_7, b7_8, b7_9, b7_10⟩ := H.c11 (.head _)
  obtain ⟨b8_0, b8_1, b8_2, b8_3, b8_4⟩ := H.c5 (.tail _ (.head _))
  have HE0 := Lib.hid (H.drewN 1)
  have HK0 := Lib.hid (ten (HE0.out.c5 (.tail _ (.head _))) (HE0.out.c11 (.head _)))
  go_wp2_with fail
  go_region_held3 (fun w' => w'.cell? ⟨W.heap.size, 0, none⟩ = some (.int .i64 x0_0) ∧ w'.cell? ⟨W.heap.size, 1, none⟩ = some (.int .i64 x0_1) ∧ w'.cell? ⟨W.heap.size, 2, none⟩ = some (.int .i64 x0_2) ∧ w'.cell? ⟨W.heap.size, 3, none⟩ = some (.int .i64 x0_3) ∧ w'.cell? ⟨W.heap.size, 4, none⟩ = some (.int .i64 x0_4) ∧ w'.cell? ⟨W.heap.size + 1, 0, none⟩ = some (.int .i64 x1_0) ∧ w'.cell? ⟨W.heap.size + 1, 1, none⟩ = some (.int .i64 x1_1) ∧ w'.cell? ⟨W.heap.size + 1, 2, none⟩ = some (.int .i64 x1_2) ∧ w'.cell? ⟨W.heap.size + 1, 3, none⟩ = some (.slice A1_3 l1_3.length c1_3) ∧ w'.cell? ⟨W.heap.size + 1, 4, none⟩ = some (.slice A1_4 l1_4.length c1_4) ∧ w'.cell? ⟨W.heap.size + 1, 5, none⟩ = some (.int .i64 x1_5) ∧ w'.cell? ⟨W.heap.size + 1, 6, none⟩ = some (.int .i64 x1_6) ∧ w'.cell? ⟨W.heap.size + 1, 7, none⟩ = some (.slice A1_7 l1_7.length c1_7) ∧ w'.cell? ⟨W.heap.size + 1, 8, none⟩ = some (.slice A1_8 l1_8.length c1_8) ∧ w'.cell? ⟨W.heap.size + 1, 9, none⟩ = some (.slice A1_9 l1_9.length c1_9) ∧ w'.cell? ⟨W.heap.size + 1, 10, none⟩ = some (.slice A1_10 l1_10.length c1_10))
    (first
      | exact HK0.out
      | exact HK1.out
      | exact HK2.out
      | exact HK3.out)
    (first
      | (go_at_call_of 32 (Value.int IntKind.i64 x0_0); refine (toLimits_any x0_0 x0_1 x0_2 x0_3 x0_4   _  ).mono ?_; rintro e w1 ⟨rfl, hb⟩; have HX := HE0.out.up hb; clear hb; have HE1 := Lib.hid HX; clear HX; have HK1 := Lib.hid (ten (HE1.out.c5 (.tail _ (.head _))) (HE1.out.c11 (.head _))))
      | (go_at_call_of 33 (Value.int IntKind.i64 x1_0); refine (toBlock_any x1_0 x1_1 x1_2 x1_5 x1_6 _ _ _ _ _ _ l1_3 l1_4 l1_7 l1_8 l1_9 l1_10 _ (hs1_3.up HE1.out.bel) (hs1_4.up HE1.out.bel) (hs1_7.up HE1.out.bel) (hs1_8.up HE1.out.bel) (hs1_9.up HE1.out.bel) (hs1_10.up HE1.out.bel) hL1_3 hL1_4 hL1_7 hL1_8 hL1_9 hN1_9 hL1_10 hN1_10).mono ?_; rintro e w2 ⟨u2_3, u2_4, u2_7, u2_8, u2_9, u2_10, vs2_9, vs2_10, rfl, hv2_9, hv2_10, K⟩; have HV2_9 := Lib.hid hv2_9; have HV2_10 := Lib.hid hv2_10; obtain ⟨A2_3', c2_3', rfl⟩ := K.openB' (.head _); obtain ⟨A2_4', c2_4', rfl⟩ := K.openB' (.tail _ (.head _)); obtain ⟨A2_7', c2_7', rfl⟩ := K.openB' (.tail _ (.tail _ (.head _))); obtain ⟨A2_8', c2_8', rfl⟩ := K.openB' (.tail _ (.tail _ (.tail _ (.head _)))); obtain ⟨A2_9', c2_9', rfl⟩ := K.openS hv2_9 (.tail _ (.tail _ (.tail _ (.tail _ (.head _))))); clear hv2_9; obtain ⟨A2_10', c2_10', rfl⟩ := K.openS hv2_10 (.tail _ (.tail _ (.tail _ (.tail _ (.tail _ (.head _)))))); clear hv2_10; have HT := HE1.out.moreF K; clear K; have HX : InvF W w2 [segB 5 (.slice A2_3' l1_3.length c2_3') l1_3, segB 5 (.slice A2_4' l1_4.length c2_4') l1_4, segB 5 (.slice A2_7' l1_7.length c2_7') l1_7, segB 5 (.slice A2_8' l1_8.length c2_8') l1_8, segS 22 5 (.slice A2_9' l1_9.length c2_9') vs2_9 l1_9, segS 22 5 (.slice A2_10' l1_10.length c2_10') vs2_10 l1_10, segX 56 (W.heap.size + 1) [.int .i64 x1_0, .int .i64 x1_1, .int .i64 x1_2, (.slice A1_3 l1_3.length c1_3), (.slice A1_4 l1_4.length c1_4), .int .i64 x1_5, .int .i64 x1_6, (.slice A1_7 l1_7.length c1_7), (.slice A1_8 l1_8.length c1_8), (.slice A1_9 l1_9.length c1_9), (.slice A1_10 l1_10.length c1_10)], segX 50 W.heap.size [.int .i64 x0_0, .int .i64 x0_1, .int .i64 x0_2, .int .i64 x0_3, .int .i64 x0_4]] := HT; clear HT; have HE2 := Lib.hid HX; clear HX; have HK2 := Lib.hid (ten (HE2.out.c5 (.tail _ (.tail _ (.tail _ (.tail _ (.tail _ (.tail _ (.tail _ (.head _))))))))) (HE2.out.c11 (.tail _ (.tail _ (.tail _ (.tail _ (.tail _ (.tail _ (.head _))))))))))
      | (go_at_call 31; refine (specBlockOk_any x0_0 x0_1 x0_2 x0_3 x0_4 x1_0 x1_1 x1_2 x1_5 x1_6 _ _ _ _ _ _ l1_3 l1_4 l1_7 l1_8 l1_9 l1_10 _  (HE2.out.slB 5 (.head _)) (HE2.out.slB 5 (.tail _ (.head _))) (HE2.out.slB 5 (.tail _ (.tail _ (.head _)))) (HE2.out.slB 5 (.tail _ (.tail _ (.tail _ (.head _))))) (HE2.out.slS 22 5 HV2_9.out (.tail _ (.tail _ (.tail _ (.tail _ (.head _)))))) (HE2.out.slS 22 5 HV2_10.out (.tail _ (.tail _ (.tail _ (.tail _ (.tail _ (.head _))))))) (by omega) (by omega) (by omega) ).mono ?_; rw [← HB0.out]; rintro e w3 ⟨rfl, hb⟩; have HX := HE2.out.up hb; clear hb; have HE3 := Lib.hid HX; clear HX; have HK3 := Lib.hid (ten (HE3.out.c5 (.tail _ (.tail _ (.tail _ (.tail _ (.tail _ (.tail _ (.tail _ (.head _))))))))) (HE3.out.c11 (.tail _ (.tail _ (.tail _ (.tail _ (.tail _ (.tail _ (.head _)))))))))))
  clear H b7_0 b7_1 b7_2 b7_3 b7_4 b7_5 b7_6 b7_7 b7_8 b7_9 b7_10 b8_0 b8_1 b8_2 b8_3 b8_4
  have H := HE3.out
  clear HE0 HK0 HE1 HK1 HE2 HK2 HE3 HK3
  replace H := H.sub (qs := [segX 56 (W.heap.size + 1) [.int .i64 x1_0, .int .i64 x1_1, .int .i64 x1_2, (.slice A1_3 l1_3.length c1_3), (.slice A1_4 l1_4.length c1_4), .int .i64 x1_5, .int .i64 x1_6, (.slice A1_7 l1_7.length c1_7), (.slice A1_8 l1_8.length c1_8), (.slice A1_9 l1_9.length c1_9), (.slice A1_10 l1_10.length c1_10)], segX 50 W.heap.size [.int .i64 x0_0, .int .i64 x0_1, .int .i64 x0_2, .int .i64 x0_3, .int .i64 x0_4]]) (.cons _ (.cons _ (.cons _ (.cons _ (.cons _ (.cons _ (.cons_cons _ (.cons_cons _ .slnil))))))))
  obtain ⟨b9_0, b9_1, b9_2, b9_3, b9_4, b9_5, b9_6, b9_7, b9_8, b9_9, b9_10⟩ := H.c11 (.head _)
  obtain ⟨b10_0, b10_1, b10_2, b10_3, b10_4⟩ := H.c5 (.tail _ (.head _))
  go_wp2_with fail
  refine (toBlock_any x1_0 x1_1 x1_2 x1_5 x1_6 _ _ _ _ _ _ l1_3 l1_4 l1_7 l1_8 l1_9 l1_10 _ (hs1_3.up H.bel) (hs1_4.up H.bel) (hs1_7.up H.bel) (hs1_8.up H.bel) (hs1_9.up H.bel) (hs1_10.up H.bel) hL1_3 hL1_4 hL1_7 hL1_8 hL1_9 hN1_9 hL1_10 hN1_10).mono ?_
  rintro e w4 ⟨u4_3, u4_4, u4_7, u4_8, u4_9, u4_10, vs4_9, vs4_10, rfl, hv4_9, hv4_10, K⟩
  have HV4_9 := Lib.hid hv4_9
  have HV4_10 := Lib.hid hv4_10
  obtain ⟨A4_3', c4_3', rfl⟩ := K.openB' (.head _)
  obtain ⟨A4_4', c4_4', rfl⟩ := K.openB' (.tail _ (.head _))
  obtain ⟨A4_7', c4_7', rfl⟩ := K.openB' (.tail _ (.tail _ (.head _)))
  obtain ⟨A4_8', c4_8', rfl⟩ := K.openB' (.tail _ (.tail _ (.tail _ (.head _))))
  obtain ⟨A4_9', c4_9', rfl⟩ := K.openS hv4_9 (.tail _ (.tail _ (.tail _ (.tail _ (.head _)))))
  clear hv4_9
  obtain ⟨A4_10', c4_10', rfl⟩ := K.openS hv4_10 (.tail _ (.tail _ (.tail _ (.tail _ (.tail _ (.head _))))))
  clear hv4_10
  have HT := H.moreF K
  clear K
  replace H : InvF W w4 [segB 5 (.slice A4_3' l1_3.length c4_3') l1_3, segB 5 (.slice A4_4' l1_4.length c4_4') l1_4, segB 5 (.slice A4_7' l1_7.length c4_7') l1_7, segB 5 (.slice A4_8' l1_8.length c4_8') l1_8, segS 22 5 (.slice A4_9' l1_9.length c4_9') vs4_9 l1_9, segS 22 5 (.slice A4_10' l1_10.length c4_10') vs4_10 l1_10, segX 56 (W.heap.size + 1) [.int .i64 x1_0, .int .i64 x1_1, .int .i64 x1_2, (.slice A1_3 l1_3.length c1_3), (.slice A1_4 l1_4.length c1_4), .int .i64 x1_5, .int .i64 x1_6, (.slice A1_7 l1_7.length c1_7), (.slice A1_8 l1_8.length c1_8), (.slice A1_9 l1_9.length c1_9), (.slice A1_10 l1_10.length c1_10)], segX 50 W.heap.size [.int .i64 x0_0, .int .i64 x0_1, .int .i64 x0_2, .int .i64 x0_3, .int .i64 x0_4]] := HT
  clear HT
  replace H := H.newX 65 #[.int .i64 x1_0, .int .i64 x1_1, .int .i64 x1_2, (.slice A4_3' l1_3.length c4_3'), (.slice A4_4' l1_4.length c4_4'), .int .i64 x1_5, .int .i64 x1_6, (.slice A4_7' l1_7.length c4_7'), (.slice A4_8' l1_8.length c4_8'), (.slice A4_9' l1_9.length c4_9'), (.slice A4_10' l1_10.length c4_10')]
  replace H : InvF W _ [segX 65 w4.heap.size [.int .i64 x1_0, .int .i64 x1_1, .int .i64 x1_2, (.slice A4_3' l1_3.length c4_3'), (.slice A4_4' l1_4.length c4_4'), .int .i64 x1_5, .int .i64 x1_6, (.slice A4_7' l1_7.length c4_7'), (.slice A4_8' l1_8.length c4_8'), (.slice A4_9' l1_9.length c4_9'), (.slice A4_10' l1_10.length c4_10')], segB 5 (.slice A4_3' l1_3.length c4_3') l1_3, segB 5 (.slice A4_4' l1_4.length c4_4') l1_4, segB 5 (.slice A4_7' l1_7.length c4_7') l1_7, segB 5 (.slice A4_8' l1_8.length c4_8') l1_8, segS 22 5 (.slice A4_9' l1_9.length c4_9') vs4_9 l1_9, segS 22 5 (.slice A4_10' l1_10.length c4_10') vs4_10 l1_10, segX 56 (W.heap.size + 1) [.int .i64 x1_0, .int .i64 x1_1, .int .i64 x1_2, (.slice A1_3 l1_3.length c1_3), (.slice A1_4 l1_4.length c1_4), .int .i64 x1_5, .int .i64 x1_6, (.slice A1_7 l1_7.length c1_7), (.slice A1_8 l1_8.length c1_8), (.slice A1_9 l1_9.length c1_9), (.slice A1_10 l1_10.length c1_10)], segX 50 W.heap.size [.int .i64 x0_0, .int .i64 x0_1, .int .i64 x0_2, .int .i64 x0_3, .int .i64 x0_4]] := H
  clear b9_0 b9_1 b9_2 b9_3 b9_4 b9_5 b9_6 b9_7 b9_8 b9_9 b9_10 b10_0 b10_1 b10_2 b10_3 b10_4
  obtain ⟨b11_0, b11_1, b11_2, b11_3, b11_4, b11_5, b11_6, b11_7, b11_8, b11_9, b11_10⟩ := H.c11 (.head _)
  obtain ⟨b12_0, b12_1, b12_2, b12_3, b12_4, b12_5, b12_6, b12_7, b12_8, b12_9, b12_10⟩ := H.c11 (.tail _ (.tail _ (.tail _ (.tail _ (.tail _ (.tail _ (.tail _ (.head _))))))))
  obtain ⟨b13_0, b13_1, b13_2, b13_3, b13_4⟩ := H.c5 (.tail _ (.tail _ (.tail _ (.tail _ (.tail _ (.tail _ (.tail _ (.tail _ (.head _)))))))))
  have HE0 := Lib.hid (H.drewN 1)
  have HK0 := Lib.hid (ten (HE0.out.c5 (.tail _ (.tail _ (.tail _ (.tail _ (.tail _ (.tail _ (.tail _ (.tail _ (.head _)))))))))) (HE0.out.c11 (.head _)))
  go_wp2_with fail
  go_region_held3 (fun w' => w'.cell? ⟨W.heap.size, 0, none⟩ = some (.int .i64 x0_0) ∧ w'.cell? ⟨W.heap.size, 1, none⟩ = some (.int .i64 x0_1) ∧ w'.cell? ⟨W.heap.size, 2, none⟩ = some (.int .i64 x0_2) ∧ w'.cell? ⟨W.heap.size, 3, none⟩ = some (.int .i64 x0_3) ∧ w'.cell? ⟨W.heap.size, 4, none⟩ = some (.int .i64 x0_4) ∧ w'.cell? ⟨w4.heap.size, 0, none⟩ = some (.int .i64 x1_0) ∧ w'.cell? ⟨w4.heap.size, 1, none⟩ = some (.int .i64 x1_1) ∧ w'.cell? ⟨w4.heap.size, 2, none⟩ = some (.int .i64 x1_2) ∧ w'.cell? ⟨w4.heap.size, 3, none⟩ = some (.slice A4_3' l1_3.length c4_3') ∧ w'.cell? ⟨w4.heap.size, 4, none⟩ = some (.slice A4_4' l1_4.length c4_4') ∧ w'.cell? ⟨w4.heap.size, 5, none⟩ = some (.int .i64 x1_5) ∧ w'.cell? ⟨w4.heap.size, 6, none⟩ = some (.int .i64 x1_6) ∧ w'.cell? ⟨w4.heap.size, 7, none⟩ = some (.slice A4_7' l1_7.length c4_7') ∧ w'.cell? ⟨w4.heap.size, 8, none⟩ = some (.slice A4_8' l1_8.length c4_8') ∧ w'.cell? ⟨w4.heap.size, 9, none⟩ = some (.slice A4_9' l1_9.length c4_9') ∧ w'.cell? ⟨w4.heap.size, 10, none⟩ = some (.slice A4_10' l1_10.length c4_10'))
    (first
      | exact HK0.out
      | exact HK1.out
      | exact HK2.out)
    (first
      | (go_at_call_of 32 (Value.int IntKind.i64 x0_0); refine (toLimits_any x0_0 x0_1 x0_2 x0_3 x0_4   _  ).mono ?_; rintro e w5 ⟨rfl, hb⟩; have HX := HE0.out.up hb; clear hb; have HE1 := Lib.hid HX; clear HX; have HK1 := Lib.hid (ten (HE1.out.c5 (.tail _ (.tail _ (.tail _ (.tail _ (.tail _ (.tail _ (.tail _ (.tail _ (.head _)))))))))) (HE1.out.c11 (.head _))))
      | (go_at_call 34; refine (implBlockOk_any x0_0 x0_1 x0_2 x0_3 x0_4 x1_0 x1_1 x1_2 x1_5 x1_6 _ _ _ _ _ _ l1_3 l1_4 l1_7 l1_8 l1_9 l1_10 _  (HE1.out.slB 5 (.tail _ (.head _))) (HE1.out.slB 5 (.tail _ (.tail _ (.head _)))) (HE1.out.slB 5 (.tail _ (.tail _ (.tail _ (.head _))))) (HE1.out.slB 5 (.tail _ (.tail _ (.tail _ (.tail _ (.head _)))))) (HE1.out.slS 22 5 HV4_9.out (.tail _ (.tail _ (.tail _ (.tail _ (.tail _ (.head _))))))) (HE1.out.slS 22 5 HV4_10.out (.tail _ (.tail _ (.tail _ (.tail _ (.tail _ (.tail _ (.head _)))))))) (by omega) (by omega) (by omega) (hgI.up HE1.out.bel) (hg.up HE1.out.bel)).mono ?_; rw [← HB0.out]; rintro e w6 ⟨rfl, hb⟩; have HX := HE1.out.up hb; clear hb; have HE2 := Lib.hid HX; clear HX; have HK2 := Lib.hid (ten (HE2.out.c5 (.tail _ (.tail _ (.tail _ (.tail _ (.tail _ (.tail _ (.tail _ (.tail _ (.head _)))))))))) (HE2.out.c11 (.head _)))))
  clear H b11_0 b11_1 b11_2 b11_3 b11_4 b11_5 b11_6 b11_7 b11_8 b11_9 b11_10 b12_0 b12_1 b12_2 b12_3 b12_4 b12_5 b12_6 b12_7 b12_8 b12_9 b12_10 b13_0 b13_1 b13_2 b13_3 b13_4
  have H := HE2.out
  clear HE0 HK0 HE1 HK1 HE2 HK2
  obtain ⟨b14_0, b14_1, b14_2, b14_3, b14_4, b14_5, b14_6, b14_7, b14_8, b14_9, b14_10⟩ := H.c11 (.head _)
  obtain ⟨b15_0, b15_1, b15_2, b15_3, b15_4, b15_5, b15_6, b15_7, b15_8, b15_9, b15_10⟩ := H.c11 (.tail _ (.tail _ (.tail _ (.tail _ (.tail _ (.tail _ (.tail _ (.head _))))))))
  obtain ⟨b16_0, b16_1, b16_2, b16_3, b16_4⟩ := H.c5 (.tail _ (.tail _ (.tail _ (.tail _ (.tail _ (.tail _ (.tail _ (.tail _ (.head _)))))))))
  have HE0 := Lib.hid (H.drewN 1)
  have HK0 := Lib.hid (ten11 (HE0.out.c11 (.head _)) (HE0.out.c11 (.tail _ (.tail _ (.tail _ (.tail _ (.tail _ (.tail _ (.tail _ (.head _))))))))))
  go_wp2_with fail
  go_region_held3 (fun w' => w'.cell? ⟨w4.heap.size, 0, none⟩ = some (.int .i64 x1_0) ∧ w'.cell? ⟨w4.heap.size, 1, none⟩ = some (.int .i64 x1_1) ∧ w'.cell? ⟨w4.heap.size, 2, none⟩ = some (.int .i64 x1_2) ∧ w'.cell? ⟨w4.heap.size, 3, none⟩ = some (.slice A4_3' l1_3.length c4_3') ∧ w'.cell? ⟨w4.heap.size, 4, none⟩ = some (.slice A4_4' l1_4.length c4_4') ∧ w'.cell? ⟨w4.heap.size, 5, none⟩ = some (.int .i64 x1_5) ∧ w'.cell? ⟨w4.heap.size, 6, none⟩ = some (.int .i64 x1_6) ∧ w'.cell? ⟨w4.heap.size, 7, none⟩ = some (.slice A4_7' l1_7.length c4_7') ∧ w'.cell? ⟨w4.heap.size, 8, none⟩ = some (.slice A4_8' l1_8.length c4_8') ∧ w'.cell? ⟨w4.heap.size, 9, none⟩ = some (.slice A4_9' l1_9.length c4_9') ∧ w'.cell? ⟨w4.heap.size, 10, none⟩ = some (.slice A4_10' l1_10.length c4_10') ∧ w'.cell? ⟨W.heap.size + 1, 0, none⟩ = some (.int .i64 x1_0) ∧ w'.cell? ⟨W.heap.size + 1, 1, none⟩ = some (.int .i64 x1_1) ∧ w'.cell? ⟨W.heap.size + 1, 2, none⟩ = some (.int .i64 x1_2) ∧ w'.cell? ⟨W.heap.size + 1, 3, none⟩ = some (.slice A1_3 l1_3.length c1_3) ∧ w'.cell? ⟨W.heap.size + 1, 4, none⟩ = some (.slice A1_4 l1_4.length c1_4) ∧ w'.cell? ⟨W.heap.size + 1, 5, none⟩ = some (.int .i64 x1_5) ∧ w'.cell? ⟨W.heap.size + 1, 6, none⟩ = some (.int .i64 x1_6) ∧ w'.cell? ⟨W.heap.size + 1, 7, none⟩ = some (.slice A1_7 l1_7.length c1_7) ∧ w'.cell? ⟨W.heap.size + 1, 8, none⟩ = some (.slice A1_8 l1_8.length c1_8) ∧ w'.cell? ⟨W.heap.size + 1, 9, none⟩ = some (.slice A1_9 l1_9.length c1_9) ∧ w'.cell? ⟨W.heap.size + 1, 10, none⟩ = some (.slice A1_10 l1_10.length c1_10))
    (first
      | exact HK0.out
      | exact HK1.out
      | exact HK2.out)
    (first
      | (go_at_call_of 33 (Value.int IntKind.i64 x1_0); refine (toBlock_any x1_0 x1_1 x1_2 x1_5 x1_6 _ _ _ _ _ _ l1_3 l1_4 l1_7 l1_8 l1_9 l1_10 _ (hs1_3.up HE0.out.bel) (hs1_4.up HE0.out.bel) (hs1_7.up HE0.out.bel) (hs1_8.up HE0.out.bel) (hs1_9.up HE0.out.bel) (hs1_10.up HE0.out.bel) hL1_3 hL1_4 hL1_7 hL1_8 hL1_9 hN1_9 hL1_10 hN1_10).mono ?_; rintro e w7 ⟨u7_3, u7_4, u7_7, u7_8, u7_9, u7_10, vs7_9, vs7_10, rfl, hv7_9, hv7_10, K⟩; have HV7_9 := Lib.hid hv7_9; have HV7_10 := Lib.hid hv7_10; obtain ⟨A7_3', c7_3', rfl⟩ := K.openB' (.head _); obtain ⟨A7_4', c7_4', rfl⟩ := K.openB' (.tail _ (.head _)); obtain ⟨A7_7', c7_7', rfl⟩ := K.openB' (.tail _ (.tail _ (.head _))); obtain ⟨A7_8', c7_8', rfl⟩ := K.openB' (.tail _ (.tail _ (.tail _ (.head _)))); obtain ⟨A7_9', c7_9', rfl⟩ := K.openS hv7_9 (.tail _ (.tail _ (.tail _ (.tail _ (.head _))))); clear hv7_9; obtain ⟨A7_10', c7_10', rfl⟩ := K.openS hv7_10 (.tail _ (.tail _ (.tail _ (.tail _ (.tail _ (.head _)))))); clear hv7_10; have HT := HE0.out.moreF K; clear K; have HX : InvF W w7 [segB 5 (.slice A7_3' l1_3.length c7_3') l1_3, segB 5 (.slice A7_4' l1_4.length c7_4') l1_4, segB 5 (.slice A7_7' l1_7.length c7_7') l1_7, segB 5 (.slice A7_8' l1_8.length c7_8') l1_8, segS 22 5 (.slice A7_9' l1_9.length c7_9') vs7_9 l1_9, segS 22 5 (.slice A7_10' l1_10.length c7_10') vs7_10 l1_10, segX 65 w4.heap.size [.int .i64 x1_0, .int .i64 x1_1, .int .i64 x1_2, (.slice A4_3' l1_3.length c4_3'), (.slice A4_4' l1_4.length c4_4'), .int .i64 x1_5, .int .i64 x1_6, (.slice A4_7' l1_7.length c4_7'), (.slice A4_8' l1_8.length c4_8'), (.slice A4_9' l1_9.length c4_9'), (.slice A4_10' l1_10.length c4_10')], segB 5 (.slice A4_3' l1_3.length c4_3') l1_3, segB 5 (.slice A4_4' l1_4.length c4_4') l1_4, segB 5 (.slice A4_7' l1_7.length c4_7') l1_7, segB 5 (.slice A4_8' l1_8.length c4_8') l1_8, segS 22 5 (.slice A4_9' l1_9.length c4_9') vs4_9 l1_9, segS 22 5 (.slice A4_10' l1_10.length c4_10') vs4_10 l1_10, segX 56 (W.heap.size + 1) [.int .i64 x1_0, .int .i64 x1_1, .int .i64 x1_2, (.slice A1_3 l1_3.length c1_3), (.slice A1_4 l1_4.length c1_4), .int .i64 x1_5, .int .i64 x1_6, (.slice A1_7 l1_7.length c1_7), (.slice A1_8 l1_8.length c1_8), (.slice A1_9 l1_9.length c1_9), (.slice A1_10 l1_10.length c1_10)], segX 50 W.heap.size [.int .i64 x0_0, .int .i64 x0_1, .int .i64 x0_2, .int .i64 x0_3, .int .i64 x0_4]] := HT; clear HT; have HE1 := Lib.hid HX; clear HX; have HK1 := Lib.hid (ten11 (HE1.out.c11 (.tail _ (.tail _ (.tail _ (.tail _ (.tail _ (.tail _ (.head _)))))))) (HE1.out.c11 (.tail _ (.tail _ (.tail _ (.tail _ (.tail _ (.tail _ (.tail _ (.tail _ (.tail _ (.tail _ (.tail _ (.tail _ (.tail _ (.head _)))))))))))))))))
      | (go_at_call 35; refine (eqBlock_any x1_0 x1_1 x1_2 x1_5 x1_6 _ _ _ _ _ _ _ _ _ _ _ _ l1_3 l1_4 l1_7 l1_8 l1_9 l1_10 _ (HE1.out.slB 5 (.tail _ (.tail _ (.tail _ (.tail _ (.tail _ (.tail _ (.tail _ (.head _))))))))) (HE1.out.slB 5 (.tail _ (.tail _ (.tail _ (.tail _ (.tail _ (.tail _ (.tail _ (.tail _ (.head _)))))))))) (HE1.out.slB 5 (.tail _ (.tail _ (.tail _ (.tail _ (.tail _ (.tail _ (.tail _ (.tail _ (.tail _ (.head _))))))))))) (HE1.out.slB 5 (.tail _ (.tail _ (.tail _ (.tail _ (.tail _ (.tail _ (.tail _ (.tail _ (.tail _ (.tail _ (.head _)))))))))))) (HE1.out.slS 22 5 HV4_9.out (.tail _ (.tail _ (.tail _ (.tail _ (.tail _ (.tail _ (.tail _ (.tail _ (.tail _ (.tail _ (.tail _ (.head _))))))))))))) (HE1.out.slS 22 5 HV4_10.out (.tail _ (.tail _ (.tail _ (.tail _ (.tail _ (.tail _ (.tail _ (.tail _ (.tail _ (.tail _ (.tail _ (.tail _ (.head _)))))))))))))) (HE1.out.slB 5 (.head _)) (HE1.out.slB 5 (.tail _ (.head _))) (HE1.out.slB 5 (.tail _ (.tail _ (.head _)))) (HE1.out.slB 5 (.tail _ (.tail _ (.tail _ (.head _))))) (HE1.out.slS 22 5 HV7_9.out (.tail _ (.tail _ (.tail _ (.tail _ (.head _)))))) (HE1.out.slS 22 5 HV7_10.out (.tail _ (.tail _ (.tail _ (.tail _ (.tail _ (.head _)))))))).mono ?_; rintro e w8 ⟨rfl, hb⟩; have HX := HE1.out.up hb; clear hb; have HE2 := Lib.hid HX; clear HX; have HK2 := Lib.hid (ten11 (HE2.out.c11 (.tail _ (.tail _ (.tail _ (.tail _ (.tail _ (.tail _ (.head _)))))))) (HE2.out.c11 (.tail _ (.tail _ (.tail _ (.tail _ (.tail _ (.tail _ (.tail _ (.tail _ (.tail _ (.tail _ (.tail _ (.tail _ (.tail _ (.head _))))))))))))))))))
  clear H b14_0 b14_1 b14_2 b14_3 b14_4 b14_5 b14_6 b14_7 b14_8 b14_9 b14_10 b15_0 b15_1 b15_2 b15_3 b15_4 b15_5 b15_6 b15_7 b15_8 b15_9 b15_10 b16_0 b16_1 b16_2 b16_3 b16_4
  have H := HE2.out
  clear HE0 HK0 HE1 HK1 HE2 HK2
  replace H := H.sub (qs := [segX 65 w4.heap.size [.int .i64 x1_0, .int .i64 x1_1, .int .i64 x1_2, (.slice A4_3' l1_3.length c4_3'), (.slice A4_4' l1_4.length c4_4'), .int .i64 x1_5, .int .i64 x1_6, (.slice A4_7' l1_7.length c4_7'), (.slice A4_8' l1_8.length c4_8'), (.slice A4_9' l1_9.length c4_9'), (.slice A4_10' l1_10.length c4_10')], segB 5 (.slice A4_3' l1_3.length c4_3') l1_3, segB 5 (.slice A4_4' l1_4.length c4_4') l1_4, segB 5 (.slice A4_7' l1_7.length c4_7') l1_7, segB 5 (.slice A4_8' l1_8.length c4_8') l1_8, segS 22 5 (.slice A4_9' l1_9.length c4_9') vs4_9 l1_9, segS 22 5 (.slice A4_10' l1_10.length c4_10') vs4_10 l1_10, segX 56 (W.heap.size + 1) [.int .i64 x1_0, .int .i64 x1_1, .int .i64 x1_2, (.slice A1_3 l1_3.length c1_3), (.slice A1_4 l1_4.length c1_4), .int .i64 x1_5, .int .i64 x1_6, (.slice A1_7 l1_7.length c1_7), (.slice A1_8 l1_8.length c1_8), (.slice A1_9 l1_9.length c1_9), (.slice A1_10 l1_10.length c1_10)], segX 50 W.heap.size [.int .i64 x0_0, .int .i64 x0_1, .int .i64 x0_2, .int .i64 x0_3, .int .i64 x0_4]]) (.cons _ (.cons _ (.cons _ (.cons _ (.cons _ (.cons _ (.cons_cons _ (.cons_cons _ (.cons_cons _ (.cons_cons _ (.cons_cons _ (.cons_cons _ (.cons_cons _ (.cons_cons _ (.cons_cons _ .slnil)))))))))))))))
  obtain ⟨b17_0, b17_1, b17_2, b17_3, b17_4, b17_5, b17_6, b17_7, b17_8, b17_9, b17_10⟩ := H.c11 (.head _)
  obtain ⟨b18_0, b18_1, b18_2, b18_3, b18_4, b18_5, b18_6, b18_7, b18_8, b18_9, b18_10⟩ := H.c11 (.tail _ (.tail _ (.tail _ (.tail _ (.tail _ (.tail _ (.tail _ (.head _))))))))
  obtain ⟨b19_0, b19_1, b19_2, b19_3, b19_4⟩ := H.c5 (.tail _ (.tail _ (.tail _ (.tail _ (.tail _ (.tail _ (.tail _ (.tail _ (.head _)))))))))
  go_wp2_with fail
  go_ret
  exact ⟨rfl, by have hfin := H.bel; simpa using hfin⟩
end Go.Proofs.YtdoaikanaodefaaDoor
