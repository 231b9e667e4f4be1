/- The walk of the exact law of BlockPath: for every argument the law answers true and leaves all memory that was there as it was. -/
import Derived.Test.YtdoaikanaodefaaGreatDoorBlockPath
import Derived.Test.YtdoaikanaodefaaGreatDoorBlockM
import Derived.Deep.RegionHeld3
namespace Go.Proofs.YtdoaikanaodefaaGreatDoor
open Go.ChangeShapes Go.WideShapes Go.ChangeAt Go.RowKit

set_option maxRecDepth 100000 in
set_option maxHeartbeats 8000000 in
theorem BlockPath_walk (x0_0 x0_1 x0_2 x0_3 x0_4 : Int) (x1_0 x1_1 x1_2 x1_5 x1_6 : Int) (v1_3 v1_4 v1_7 v1_8 v1_9 v1_10 : Value) (l1_3 : List UInt8) (l1_4 : List UInt8) (l1_7 : List UInt8) (l1_8 : List UInt8) (l1_9 : List (List UInt8)) (l1_10 : List (List UInt8)) (n2 : Int) (W : World) (h1_3 : Sl W W.heap.size v1_3 l1_3) (h1_4 : Sl W W.heap.size v1_4 l1_4) (h1_7 : Sl W W.heap.size v1_7 l1_7) (h1_8 : Sl W W.heap.size v1_8 l1_8) (h1_9 : SlS W W.heap.size v1_9 l1_9) (h1_10 : SlS W W.heap.size v1_10 l1_10) (hgI : Glob W 0 initW) (hg : Glob W 1 kk) :
    Calls Tryz.prog 6 #[.agg #[.int .i64 x0_0, .int .i64 x0_1, .int .i64 x0_2, .int .i64 x0_3, .int .i64 x0_4], .agg #[.int .i64 x1_0, .int .i64 x1_1, .int .i64 x1_2, v1_3, v1_4, .int .i64 x1_5, .int .i64 x1_6, v1_7, v1_8, v1_9, v1_10], .int .i64 n2] W (Yes W) := by
  have hs1_3 := h1_3
  obtain ⟨A1_3, c1_3, rfl, p1_3, q1_3, r1_3, z1_3⟩ := h1_3
  unfold maxLen at q1_3
  clear r1_3 z1_3
  have hs1_4 := h1_4
  obtain ⟨A1_4, c1_4, rfl, p1_4, q1_4, r1_4, z1_4⟩ := h1_4
  unfold maxLen at q1_4
  clear r1_4 z1_4
  have hs1_7 := h1_7
  obtain ⟨A1_7, c1_7, rfl, p1_7, q1_7, r1_7, z1_7⟩ := h1_7
  unfold maxLen at q1_7
  clear r1_7 z1_7
  have hs1_8 := h1_8
  obtain ⟨A1_8, c1_8, rfl, p1_8, q1_8, r1_8, z1_8⟩ := h1_8
  unfold maxLen at q1_8
  clear r1_8 z1_8
  have hs1_9 := h1_9
  obtain ⟨A1_9, c1_9, rfl, p1_9, q1_9, r1_9, z1_9⟩ := h1_9
  unfold maxLen at q1_9
  clear r1_9 z1_9
  have hs1_10 := h1_10
  obtain ⟨A1_10, c1_10, rfl, p1_10, q1_10, r1_10, z1_10⟩ := h1_10
  unfold maxLen at q1_10
  clear r1_10 z1_10
  by_cases hbig : (1048576 : Int) < (l1_3.length : Int) + (l1_4.length : Int) + (l1_7.length : Int) + (l1_8.length : Int) + (l1_9.length : Int) + (sumL l1_9 : Int) + (l1_10.length : Int) + (sumL l1_10 : Int)
  · have HZ0 : Hid (szGZ l1_3 l1_4 l1_7 l1_8 l1_9 l1_10 (1048576 : Int) = -1) := Lib.hid (by exact szGZ_big hbig)
    clear hbig
    have H : InvF W W [] := InvF.start W
    replace H := H.newG 23 #[.int .i64 x0_0, .int .i64 x0_1, .int .i64 x0_2, .int .i64 x0_3, .int .i64 x0_4] (W.heap.size)
    replace H := H.newG 31 #[.int .i64 x1_0, .int .i64 x1_1, .int .i64 x1_2, .slice A1_3 l1_3.length c1_3, .slice A1_4 l1_4.length c1_4, .int .i64 x1_5, .int .i64 x1_6, .slice A1_7 l1_7.length c1_7, .slice A1_8 l1_8.length c1_8, .slice A1_9 l1_9.length c1_9, .slice A1_10 l1_10.length c1_10] (W.heap.size + 1)
    replace H : InvF W _ [segX 31 (W.heap.size + 1) [.int .i64 x1_0, .int .i64 x1_1, .int .i64 x1_2, (.slice A1_3 l1_3.length c1_3), (.slice A1_4 l1_4.length c1_4), .int .i64 x1_5, .int .i64 x1_6, (.slice A1_7 l1_7.length c1_7), (.slice A1_8 l1_8.length c1_8), (.slice A1_9 l1_9.length c1_9), (.slice A1_10 l1_10.length c1_10)], segX 23 W.heap.size [.int .i64 x0_0, .int .i64 x0_1, .int .i64 x0_2, .int .i64 x0_3, .int .i64 x0_4]] := H
    go_enter Tryz.func6, Tryz.ntmps6
    obtain ⟨b1_0, b1_1, b1_2, b1_3, b1_4, b1_5, b1_6, b1_7, b1_8, b1_9, b1_10⟩ := H.c11 (.head _)
    obtain ⟨b2_0, b2_1, b2_2, b2_3, b2_4⟩ := H.c5 (.tail _ (.head _))
    go_wp2_with fail
    refine (szBlock_any x1_0 x1_1 x1_2 x1_5 x1_6 _ _ _ _ _ _ l1_3 l1_4 l1_7 l1_8 l1_9 l1_10 1048576 _ (hs1_3.up H.bel) (hs1_4.up H.bel) (hs1_7.up H.bel) (hs1_8.up H.bel) (hs1_9.up H.bel) (hs1_10.up H.bel) (by omega) (by omega)).mono ?_
    rw [HZ0.out]
    rintro e wz0 ⟨rfl, hb⟩
    replace H := H.up hb
    clear hb
    clear b1_0 b1_1 b1_2 b1_3 b1_4 b1_5 b1_6 b1_7 b1_8 b1_9 b1_10 b2_0 b2_1 b2_2 b2_3 b2_4
    obtain ⟨b3_0, b3_1, b3_2, b3_3, b3_4, b3_5, b3_6, b3_7, b3_8, b3_9, b3_10⟩ := H.c11 (.head _)
    obtain ⟨b4_0, b4_1, b4_2, b4_3, b4_4⟩ := H.c5 (.tail _ (.head _))
    go_wp2
    go_ret
    exact ⟨rfl, H.bel⟩
  obtain ⟨zz0, hz⟩ : ∃ z, z = (1048576 : Int) - ((l1_3.length : Int) + (l1_4.length : Int) + (l1_7.length : Int) + (l1_8.length : Int) + (l1_9.length : Int) + (sumL l1_9 : Int) + (l1_10.length : Int) + (sumL l1_10 : Int)) := ⟨_, rfl⟩
  have HZ0 : Hid (szGZ l1_3 l1_4 l1_7 l1_8 l1_9 l1_10 (1048576 : Int) = zz0) := Lib.hid (by rw [hz]; exact szGZ_ok hbig)
  have hzlo0 : 0 ≤ zz0 := by omega
  have hzhi0 : zz0 ≤ 1048576 := by omega
  have hzn0 : ¬ (zz0 < 0) := by omega
  have hL1_3 : l1_3.length ≤ 1048576 := by omega
  have hL1_4 : l1_4.length ≤ 1048576 := by omega
  have hL1_7 : l1_7.length ≤ 1048576 := by omega
  have hL1_8 : l1_8.length ≤ 1048576 := by omega
  have hL1_9 : l1_9.length ≤ 1048576 := by omega
  have hN1_9 : sumL l1_9 ≤ 1048576 := by omega
  have hL1_10 : l1_10.length ≤ 1048576 := by omega
  have hN1_10 : sumL l1_10 ≤ 1048576 := by omega
  have hT1 : l1_3.length + l1_4.length + l1_7.length + l1_8.length + l1_9.length + sumL l1_9 + l1_10.length + sumL l1_10 ≤ 1048576 := by omega
  clear hbig hz
  have hp : sumL (bpL x0_0 x0_1 x0_2 x0_3 x0_4 x1_0 x1_1 x1_2 x1_5 x1_6 l1_3 l1_4 l1_7 l1_8 l1_9 l1_10 n2) ≤ 4194304 := by have := bpL_small x0_0 x0_1 x0_2 x0_3 x0_4 x1_0 x1_1 x1_2 x1_5 x1_6 l1_3 l1_4 l1_7 l1_8 l1_9 l1_10 n2 hL1_10; omega
  obtain ⟨R, hR⟩ : ∃ R, R = bpL x0_0 x0_1 x0_2 x0_3 x0_4 x1_0 x1_1 x1_2 x1_5 x1_6 l1_3 l1_4 l1_7 l1_8 l1_9 l1_10 n2 := ⟨_, rfl⟩
  rw [← hR] at hp
  have HR := Lib.hid hR
  clear hR
  obtain ⟨b0, hB⟩ : ∃ b, b = bpB x0_0 x0_1 x0_2 x0_3 x0_4 x1_0 x1_1 x1_2 x1_5 x1_6 l1_3 l1_4 l1_7 l1_8 l1_9 l1_10 n2 := ⟨_, rfl⟩
  have HB0 := Lib.hid hB
  clear hB
  have hbb0 : (b0 != b0) = false := by simp
  have H : InvF W W [] := InvF.start W
  replace H := H.newG 23 #[.int .i64 x0_0, .int .i64 x0_1, .int .i64 x0_2, .int .i64 x0_3, .int .i64 x0_4] (W.heap.size)
  replace H := H.newG 31 #[.int .i64 x1_0, .int .i64 x1_1, .int .i64 x1_2, .slice A1_3 l1_3.length c1_3, .slice A1_4 l1_4.length c1_4, .int .i64 x1_5, .int .i64 x1_6, .slice A1_7 l1_7.length c1_7, .slice A1_8 l1_8.length c1_8, .slice A1_9 l1_9.length c1_9, .slice A1_10 l1_10.length c1_10] (W.heap.size + 1)
  replace H : InvF W _ [segX 31 (W.heap.size + 1) [.int .i64 x1_0, .int .i64 x1_1, .int .i64 x1_2, (.slice A1_3 l1_3.length c1_3), (.slice A1_4 l1_4.length c1_4), .int .i64 x1_5, .int .i64 x1_6, (.slice A1_7 l1_7.length c1_7), (.slice A1_8 l1_8.length c1_8), (.slice A1_9 l1_9.length c1_9), (.slice A1_10 l1_10.length c1_10)], segX 23 W.heap.size [.int .i64 x0_0, .int .i64 x0_1, .int .i64 x0_2, .int .i64 x0_3, .int .i64 x0_4]] := H
  go_enter Tryz.func6, Tryz.ntmps6
  obtain ⟨b5_0, b5_1, b5_2, b5_3, b5_4, b5_5, b5_6, b5_7, b5_8, b5_9, b5_10⟩ := H.c11 (.head _)
  obtain ⟨b6_0, b6_1, b6_2, b6_3, b6_4⟩ := H.c5 (.tail _ (.head _))
  go_wp2_with fail
  refine (szBlock_any x1_0 x1_1 x1_2 x1_5 x1_6 _ _ _ _ _ _ l1_3 l1_4 l1_7 l1_8 l1_9 l1_10 1048576 _ (hs1_3.up H.bel) (hs1_4.up H.bel) (hs1_7.up H.bel) (hs1_8.up H.bel) (hs1_9.up H.bel) (hs1_10.up H.bel) (by omega) (by omega)).mono ?_
  rw [HZ0.out]
  rintro e wz0 ⟨rfl, hb⟩
  replace H := H.up hb
  clear hb
  clear b5_0 b5_1 b5_2 b5_3 b5_4 b5_5 b5_6 b5_7 b5_8 b5_9 b5_10 b6_0 b6_1 b6_2 b6_3 b6_4
  obtain ⟨b7_0, b7_1, b7_2, b7_3, b7_4, b7_5, b7_6, b7_7, b7_8, b7_9, b7_10⟩ := H.c11 (.head _)
  obtain ⟨b8_0, b8_1, b8_2, b8_3, b8_4⟩ := H.c5 (.tail _ (.head _))
  have HE0 := Lib.hid (H.drewN 1)
  have HK0 := Lib.hid (ten (HE0.out.c5 (.tail _ (.head _))) (HE0.out.c11 (.head _)))
  go_wp2_with fail
  go_region_held3 (fun w' => w'.cell? ⟨W.heap.size, 0, none⟩ = some (.int .i64 x0_0) ∧ w'.cell? ⟨W.heap.size, 1, none⟩ = some (.int .i64 x0_1) ∧ w'.cell? ⟨W.heap.size, 2, none⟩ = some (.int .i64 x0_2) ∧ w'.cell? ⟨W.heap.size, 3, none⟩ = some (.int .i64 x0_3) ∧ w'.cell? ⟨W.heap.size, 4, none⟩ = some (.int .i64 x0_4) ∧ w'.cell? ⟨W.heap.size + 1, 0, none⟩ = some (.int .i64 x1_0) ∧ w'.cell? ⟨W.heap.size + 1, 1, none⟩ = some (.int .i64 x1_1) ∧ w'.cell? ⟨W.heap.size + 1, 2, none⟩ = some (.int .i64 x1_2) ∧ w'.cell? ⟨W.heap.size + 1, 3, none⟩ = some (.slice A1_3 l1_3.length c1_3) ∧ w'.cell? ⟨W.heap.size + 1, 4, none⟩ = some (.slice A1_4 l1_4.length c1_4) ∧ w'.cell? ⟨W.heap.size + 1, 5, none⟩ = some (.int .i64 x1_5) ∧ w'.cell? ⟨W.heap.size + 1, 6, none⟩ = some (.int .i64 x1_6) ∧ w'.cell? ⟨W.heap.size + 1, 7, none⟩ = some (.slice A1_7 l1_7.length c1_7) ∧ w'.cell? ⟨W.heap.size + 1, 8, none⟩ = some (.slice A1_8 l1_8.length c1_8) ∧ w'.cell? ⟨W.heap.size + 1, 9, none⟩ = some (.slice A1_9 l1_9.length c1_9) ∧ w'.cell? ⟨W.heap.size + 1, 10, none⟩ = some (.slice A1_10 l1_10.length c1_10))
    (first
      | exact HK0.out
      | exact HK1.out
      | exact HK2.out
      | exact HK3.out)
    (first
      | (go_at_call_of 9 (Value.int IntKind.i64 x0_0); refine (toLimits_any x0_0 x0_1 x0_2 x0_3 x0_4   _  ).mono ?_; rintro e w1 ⟨rfl, hb⟩; have HX := HE0.out.up hb; clear hb; have HE1 := Lib.hid HX; clear HX; have HK1 := Lib.hid (ten (HE1.out.c5 (.tail _ (.head _))) (HE1.out.c11 (.head _))))
      | (go_at_call_of 11 (Value.int IntKind.i64 x1_0); refine (toBlock_any x1_0 x1_1 x1_2 x1_5 x1_6 _ _ _ _ _ _ l1_3 l1_4 l1_7 l1_8 l1_9 l1_10 _ (hs1_3.up HE1.out.bel) (hs1_4.up HE1.out.bel) (hs1_7.up HE1.out.bel) (hs1_8.up HE1.out.bel) (hs1_9.up HE1.out.bel) (hs1_10.up HE1.out.bel) hL1_3 hL1_4 hL1_7 hL1_8 hL1_9 hN1_9 hL1_10 hN1_10).mono ?_; rintro e w2 ⟨u2_3, u2_4, u2_7, u2_8, u2_9, u2_10, vs2_9, vs2_10, rfl, hv2_9, hv2_10, K⟩; have HV2_9 := Lib.hid hv2_9; have HV2_10 := Lib.hid hv2_10; obtain ⟨A2_3', c2_3', rfl⟩ := K.openB' (.head _); obtain ⟨A2_4', c2_4', rfl⟩ := K.openB' (.tail _ (.head _)); obtain ⟨A2_7', c2_7', rfl⟩ := K.openB' (.tail _ (.tail _ (.head _))); obtain ⟨A2_8', c2_8', rfl⟩ := K.openB' (.tail _ (.tail _ (.tail _ (.head _)))); obtain ⟨A2_9', c2_9', rfl⟩ := K.openS hv2_9 (.tail _ (.tail _ (.tail _ (.tail _ (.head _))))); clear hv2_9; obtain ⟨A2_10', c2_10', rfl⟩ := K.openS hv2_10 (.tail _ (.tail _ (.tail _ (.tail _ (.tail _ (.head _)))))); clear hv2_10; have HT := HE1.out.moreF K; clear K; have HX : InvF W w2 [segB 5 (.slice A2_3' l1_3.length c2_3') l1_3, segB 5 (.slice A2_4' l1_4.length c2_4') l1_4, segB 5 (.slice A2_7' l1_7.length c2_7') l1_7, segB 5 (.slice A2_8' l1_8.length c2_8') l1_8, segS 24 5 (.slice A2_9' l1_9.length c2_9') vs2_9 l1_9, segS 24 5 (.slice A2_10' l1_10.length c2_10') vs2_10 l1_10, segX 31 (W.heap.size + 1) [.int .i64 x1_0, .int .i64 x1_1, .int .i64 x1_2, (.slice A1_3 l1_3.length c1_3), (.slice A1_4 l1_4.length c1_4), .int .i64 x1_5, .int .i64 x1_6, (.slice A1_7 l1_7.length c1_7), (.slice A1_8 l1_8.length c1_8), (.slice A1_9 l1_9.length c1_9), (.slice A1_10 l1_10.length c1_10)], segX 23 W.heap.size [.int .i64 x0_0, .int .i64 x0_1, .int .i64 x0_2, .int .i64 x0_3, .int .i64 x0_4]] := HT; clear HT; have HE2 := Lib.hid HX; clear HX; have HK2 := Lib.hid (ten (HE2.out.c5 (.tail _ (.tail _ (.tail _ (.tail _ (.tail _ (.tail _ (.tail _ (.head _))))))))) (HE2.out.c11 (.tail _ (.tail _ (.tail _ (.tail _ (.tail _ (.tail _ (.head _))))))))))
      | (go_at_call 31; refine (specBlockPath_any x0_0 x0_1 x0_2 x0_3 x0_4 x1_0 x1_1 x1_2 x1_5 x1_6 n2 _ _ _ _ _ _ l1_3 l1_4 l1_7 l1_8 l1_9 l1_10 _  (HE2.out.slB 5 (.head _)) (HE2.out.slB 5 (.tail _ (.head _))) (HE2.out.slB 5 (.tail _ (.tail _ (.head _)))) (HE2.out.slB 5 (.tail _ (.tail _ (.tail _ (.head _))))) (HE2.out.slS 24 5 HV2_9.out (.tail _ (.tail _ (.tail _ (.tail _ (.head _)))))) (HE2.out.slS 24 5 HV2_10.out (.tail _ (.tail _ (.tail _ (.tail _ (.tail _ (.head _))))))) (by omega) (by omega) (by omega) ).mono ?_; rw [← HR.out, ← HB0.out]; rintro e w3 ⟨u3, vs3, rfl, hv3, K⟩; have HV3 := Lib.hid hv3; clear hv3; have HX := HE2.out.more (s := segS 24 5 u3 vs3 R) K; clear K; have HE3 := Lib.hid HX; clear HX; have HK3 := Lib.hid (ten (HE3.out.c5 (.tail _ (.tail _ (.tail _ (.tail _ (.tail _ (.tail _ (.tail _ (.tail _ (.head _)))))))))) (HE3.out.c11 (.tail _ (.tail _ (.tail _ (.tail _ (.tail _ (.tail _ (.tail _ (.head _))))))))))))
  clear H b7_0 b7_1 b7_2 b7_3 b7_4 b7_5 b7_6 b7_7 b7_8 b7_9 b7_10 b8_0 b8_1 b8_2 b8_3 b8_4
  have H := HE3.out
  clear HE0 HK0 HE1 HK1 HE2 HK2 HE3 HK3
  replace H := H.sub (qs := [segS 24 5 u3 vs3 R, segX 31 (W.heap.size + 1) [.int .i64 x1_0, .int .i64 x1_1, .int .i64 x1_2, (.slice A1_3 l1_3.length c1_3), (.slice A1_4 l1_4.length c1_4), .int .i64 x1_5, .int .i64 x1_6, (.slice A1_7 l1_7.length c1_7), (.slice A1_8 l1_8.length c1_8), (.slice A1_9 l1_9.length c1_9), (.slice A1_10 l1_10.length c1_10)], segX 23 W.heap.size [.int .i64 x0_0, .int .i64 x0_1, .int .i64 x0_2, .int .i64 x0_3, .int .i64 x0_4]]) (.cons_cons _ (.cons _ (.cons _ (.cons _ (.cons _ (.cons _ (.cons _ (.cons_cons _ (.cons_cons _ .slnil)))))))))
  obtain ⟨b9_0, b9_1, b9_2, b9_3, b9_4, b9_5, b9_6, b9_7, b9_8, b9_9, b9_10⟩ := H.c11 (.tail _ (.head _))
  obtain ⟨b10_0, b10_1, b10_2, b10_3, b10_4⟩ := H.c5 (.tail _ (.tail _ (.head _)))
  go_wp2_with fail
  refine (toBlock_any x1_0 x1_1 x1_2 x1_5 x1_6 _ _ _ _ _ _ l1_3 l1_4 l1_7 l1_8 l1_9 l1_10 _ (hs1_3.up H.bel) (hs1_4.up H.bel) (hs1_7.up H.bel) (hs1_8.up H.bel) (hs1_9.up H.bel) (hs1_10.up H.bel) hL1_3 hL1_4 hL1_7 hL1_8 hL1_9 hN1_9 hL1_10 hN1_10).mono ?_
  rintro e w4 ⟨u4_3, u4_4, u4_7, u4_8, u4_9, u4_10, vs4_9, vs4_10, rfl, hv4_9, hv4_10, K⟩
  have HV4_9 := Lib.hid hv4_9
  have HV4_10 := Lib.hid hv4_10
  obtain ⟨A4_3', c4_3', rfl⟩ := K.openB' (.head _)
  obtain ⟨A4_4', c4_4', rfl⟩ := K.openB' (.tail _ (.head _))
  obtain ⟨A4_7', c4_7', rfl⟩ := K.openB' (.tail _ (.tail _ (.head _)))
  obtain ⟨A4_8', c4_8', rfl⟩ := K.openB' (.tail _ (.tail _ (.tail _ (.head _))))
  obtain ⟨A4_9', c4_9', rfl⟩ := K.openS hv4_9 (.tail _ (.tail _ (.tail _ (.tail _ (.head _)))))
  clear hv4_9
  obtain ⟨A4_10', c4_10', rfl⟩ := K.openS hv4_10 (.tail _ (.tail _ (.tail _ (.tail _ (.tail _ (.head _))))))
  clear hv4_10
  have HT := H.moreF K
  clear K
  replace H : InvF W w4 [segB 5 (.slice A4_3' l1_3.length c4_3') l1_3, segB 5 (.slice A4_4' l1_4.length c4_4') l1_4, segB 5 (.slice A4_7' l1_7.length c4_7') l1_7, segB 5 (.slice A4_8' l1_8.length c4_8') l1_8, segS 24 5 (.slice A4_9' l1_9.length c4_9') vs4_9 l1_9, segS 24 5 (.slice A4_10' l1_10.length c4_10') vs4_10 l1_10, segS 24 5 u3 vs3 R, segX 31 (W.heap.size + 1) [.int .i64 x1_0, .int .i64 x1_1, .int .i64 x1_2, (.slice A1_3 l1_3.length c1_3), (.slice A1_4 l1_4.length c1_4), .int .i64 x1_5, .int .i64 x1_6, (.slice A1_7 l1_7.length c1_7), (.slice A1_8 l1_8.length c1_8), (.slice A1_9 l1_9.length c1_9), (.slice A1_10 l1_10.length c1_10)], segX 23 W.heap.size [.int .i64 x0_0, .int .i64 x0_1, .int .i64 x0_2, .int .i64 x0_3, .int .i64 x0_4]] := HT
  clear HT
  replace H := H.newX 42 #[.int .i64 x1_0, .int .i64 x1_1, .int .i64 x1_2, (.slice A4_3' l1_3.length c4_3'), (.slice A4_4' l1_4.length c4_4'), .int .i64 x1_5, .int .i64 x1_6, (.slice A4_7' l1_7.length c4_7'), (.slice A4_8' l1_8.length c4_8'), (.slice A4_9' l1_9.length c4_9'), (.slice A4_10' l1_10.length c4_10')]
  replace H : InvF W _ [segX 42 w4.heap.size [.int .i64 x1_0, .int .i64 x1_1, .int .i64 x1_2, (.slice A4_3' l1_3.length c4_3'), (.slice A4_4' l1_4.length c4_4'), .int .i64 x1_5, .int .i64 x1_6, (.slice A4_7' l1_7.length c4_7'), (.slice A4_8' l1_8.length c4_8'), (.slice A4_9' l1_9.length c4_9'), (.slice A4_10' l1_10.length c4_10')], segB 5 (.slice A4_3' l1_3.length c4_3') l1_3, segB 5 (.slice A4_4' l1_4.length c4_4') l1_4, segB 5 (.slice A4_7' l1_7.length c4_7') l1_7, segB 5 (.slice A4_8' l1_8.length c4_8') l1_8, segS 24 5 (.slice A4_9' l1_9.length c4_9') vs4_9 l1_9, segS 24 5 (.slice A4_10' l1_10.length c4_10') vs4_10 l1_10, segS 24 5 u3 vs3 R, segX 31 (W.heap.size + 1) [.int .i64 x1_0, .int .i64 x1_1, .int .i64 x1_2, (.slice A1_3 l1_3.length c1_3), (.slice A1_4 l1_4.length c1_4), .int .i64 x1_5, .int .i64 x1_6, (.slice A1_7 l1_7.length c1_7), (.slice A1_8 l1_8.length c1_8), (.slice A1_9 l1_9.length c1_9), (.slice A1_10 l1_10.length c1_10)], segX 23 W.heap.size [.int .i64 x0_0, .int .i64 x0_1, .int .i64 x0_2, .int .i64 x0_3, .int .i64 x0_4]] := H
  clear b9_0 b9_1 b9_2 b9_3 b9_4 b9_5 b9_6 b9_7 b9_8 b9_9 b9_10 b10_0 b10_1 b10_2 b10_3 b10_4
  obtain ⟨b11_0, b11_1, b11_2, b11_3, b11_4, b11_5, b11_6, b11_7, b11_8, b11_9, b11_10⟩ := H.c11 (.head _)
  obtain ⟨b12_0, b12_1, b12_2, b12_3, b12_4, b12_5, b12_6, b12_7, b12_8, b12_9, b12_10⟩ := H.c11 (.tail _ (.tail _ (.tail _ (.tail _ (.tail _ (.tail _ (.tail _ (.tail _ (.head _)))))))))
  obtain ⟨b13_0, b13_1, b13_2, b13_3, b13_4⟩ := H.c5 (.tail _ (.tail _ (.tail _ (.tail _ (.tail _ (.tail _ (.tail _ (.tail _ (.tail _ (.head _))))))))))
  have HE0 := Lib.hid (H.drewN 1)
  have HK0 := Lib.hid (ten (HE0.out.c5 (.tail _ (.tail _ (.tail _ (.tail _ (.tail _ (.tail _ (.tail _ (.tail _ (.tail _ (.head _))))))))))) (HE0.out.c11 (.head _)))
  go_wp2_with fail
  go_region_held3 (fun w' => w'.cell? ⟨W.heap.size, 0, none⟩ = some (.int .i64 x0_0) ∧ w'.cell? ⟨W.heap.size, 1, none⟩ = some (.int .i64 x0_1) ∧ w'.cell? ⟨W.heap.size, 2, none⟩ = some (.int .i64 x0_2) ∧ w'.cell? ⟨W.heap.size, 3, none⟩ = some (.int .i64 x0_3) ∧ w'.cell? ⟨W.heap.size, 4, none⟩ = some (.int .i64 x0_4) ∧ w'.cell? ⟨w4.heap.size, 0, none⟩ = some (.int .i64 x1_0) ∧ w'.cell? ⟨w4.heap.size, 1, none⟩ = some (.int .i64 x1_1) ∧ w'.cell? ⟨w4.heap.size, 2, none⟩ = some (.int .i64 x1_2) ∧ w'.cell? ⟨w4.heap.size, 3, none⟩ = some (.slice A4_3' l1_3.length c4_3') ∧ w'.cell? ⟨w4.heap.size, 4, none⟩ = some (.slice A4_4' l1_4.length c4_4') ∧ w'.cell? ⟨w4.heap.size, 5, none⟩ = some (.int .i64 x1_5) ∧ w'.cell? ⟨w4.heap.size, 6, none⟩ = some (.int .i64 x1_6) ∧ w'.cell? ⟨w4.heap.size, 7, none⟩ = some (.slice A4_7' l1_7.length c4_7') ∧ w'.cell? ⟨w4.heap.size, 8, none⟩ = some (.slice A4_8' l1_8.length c4_8') ∧ w'.cell? ⟨w4.heap.size, 9, none⟩ = some (.slice A4_9' l1_9.length c4_9') ∧ w'.cell? ⟨w4.heap.size, 10, none⟩ = some (.slice A4_10' l1_10.length c4_10'))
    (first
      | exact HK0.out
      | exact HK1.out
      | exact HK2.out)
    (first
      | (go_at_call_of 9 (Value.int IntKind.i64 x0_0); refine (toLimits_any x0_0 x0_1 x0_2 x0_3 x0_4   _  ).mono ?_; rintro e w5 ⟨rfl, hb⟩; have HX := HE0.out.up hb; clear hb; have HE1 := Lib.hid HX; clear HX; have HK1 := Lib.hid (ten (HE1.out.c5 (.tail _ (.tail _ (.tail _ (.tail _ (.tail _ (.tail _ (.tail _ (.tail _ (.tail _ (.head _))))))))))) (HE1.out.c11 (.head _))))
      | (go_at_call 32; refine (implBlockPath_any x0_0 x0_1 x0_2 x0_3 x0_4 x1_0 x1_1 x1_2 x1_5 x1_6 n2 _ _ _ _ _ _ l1_3 l1_4 l1_7 l1_8 l1_9 l1_10 _  (HE1.out.slB 5 (.tail _ (.head _))) (HE1.out.slB 5 (.tail _ (.tail _ (.head _)))) (HE1.out.slB 5 (.tail _ (.tail _ (.tail _ (.head _))))) (HE1.out.slB 5 (.tail _ (.tail _ (.tail _ (.tail _ (.head _)))))) (HE1.out.slS 24 5 HV4_9.out (.tail _ (.tail _ (.tail _ (.tail _ (.tail _ (.head _))))))) (HE1.out.slS 24 5 HV4_10.out (.tail _ (.tail _ (.tail _ (.tail _ (.tail _ (.tail _ (.head _)))))))) (by omega) (by omega) (by omega) (hgI.up HE1.out.bel) (hg.up HE1.out.bel)).mono ?_; rw [← HR.out, ← HB0.out]; rintro e w6 ⟨u6, vs6, rfl, hv6, K⟩; have HV6 := Lib.hid hv6; clear hv6; have HX := HE1.out.more (s := segS 24 5 u6 vs6 R) K; clear K; have HE2 := Lib.hid HX; clear HX; have HK2 := Lib.hid (ten (HE2.out.c5 (.tail _ (.tail _ (.tail _ (.tail _ (.tail _ (.tail _ (.tail _ (.tail _ (.tail _ (.tail _ (.head _)))))))))))) (HE2.out.c11 (.tail _ (.head _))))))
  clear H b11_0 b11_1 b11_2 b11_3 b11_4 b11_5 b11_6 b11_7 b11_8 b11_9 b11_10 b12_0 b12_1 b12_2 b12_3 b12_4 b12_5 b12_6 b12_7 b12_8 b12_9 b12_10 b13_0 b13_1 b13_2 b13_3 b13_4
  have H := HE2.out
  clear HE0 HK0 HE1 HK1 HE2 HK2
  obtain ⟨b14_0, b14_1, b14_2, b14_3, b14_4, b14_5, b14_6, b14_7, b14_8, b14_9, b14_10⟩ := H.c11 (.tail _ (.head _))
  obtain ⟨b15_0, b15_1, b15_2, b15_3, b15_4, b15_5, b15_6, b15_7, b15_8, b15_9, b15_10⟩ := H.c11 (.tail _ (.tail _ (.tail _ (.tail _ (.tail _ (.tail _ (.tail _ (.tail _ (.tail _ (.head _))))))))))
  obtain ⟨b16_0, b16_1, b16_2, b16_3, b16_4⟩ := H.c5 (.tail _ (.tail _ (.tail _ (.tail _ (.tail _ (.tail _ (.tail _ (.tail _ (.tail _ (.tail _ (.head _)))))))))))
  go_wp2_with fail
  refine (eqByteSS_any _ _ R _ (H.slS 24 5 HV6.out (.head _)) (H.slS 24 5 HV3.out (.tail _ (.tail _ (.tail _ (.tail _ (.tail _ (.tail _ (.tail _ (.tail _ (.head _))))))))))).mono ?_
  rintro e _ ⟨rfl, d7, rfl⟩
  replace H := H.drewN d7
  clear b14_0 b14_1 b14_2 b14_3 b14_4 b14_5 b14_6 b14_7 b14_8 b14_9 b14_10 b15_0 b15_1 b15_2 b15_3 b15_4 b15_5 b15_6 b15_7 b15_8 b15_9 b15_10 b16_0 b16_1 b16_2 b16_3 b16_4
  obtain ⟨b17_0, b17_1, b17_2, b17_3, b17_4, b17_5, b17_6, b17_7, b17_8, b17_9, b17_10⟩ := H.c11 (.tail _ (.head _))
  obtain ⟨b18_0, b18_1, b18_2, b18_3, b18_4, b18_5, b18_6, b18_7, b18_8, b18_9, b18_10⟩ := H.c11 (.tail _ (.tail _ (.tail _ (.tail _ (.tail _ (.tail _ (.tail _ (.tail _ (.tail _ (.head _))))))))))
  obtain ⟨b19_0, b19_1, b19_2, b19_3, b19_4⟩ := H.c5 (.tail _ (.tail _ (.tail _ (.tail _ (.tail _ (.tail _ (.tail _ (.tail _ (.tail _ (.tail _ (.head _)))))))))))
  have HE0 := Lib.hid (H.drewN 1)
  have HK0 := Lib.hid (ten11 (HE0.out.c11 (.tail _ (.head _))) (HE0.out.c11 (.tail _ (.tail _ (.tail _ (.tail _ (.tail _ (.tail _ (.tail _ (.tail _ (.tail _ (.head _))))))))))))
  go_wp2_with fail
  go_region_held3 (fun w' => w'.cell? ⟨w4.heap.size, 0, none⟩ = some (.int .i64 x1_0) ∧ w'.cell? ⟨w4.heap.size, 1, none⟩ = some (.int .i64 x1_1) ∧ w'.cell? ⟨w4.heap.size, 2, none⟩ = some (.int .i64 x1_2) ∧ w'.cell? ⟨w4.heap.size, 3, none⟩ = some (.slice A4_3' l1_3.length c4_3') ∧ w'.cell? ⟨w4.heap.size, 4, none⟩ = some (.slice A4_4' l1_4.length c4_4') ∧ w'.cell? ⟨w4.heap.size, 5, none⟩ = some (.int .i64 x1_5) ∧ w'.cell? ⟨w4.heap.size, 6, none⟩ = some (.int .i64 x1_6) ∧ w'.cell? ⟨w4.heap.size, 7, none⟩ = some (.slice A4_7' l1_7.length c4_7') ∧ w'.cell? ⟨w4.heap.size, 8, none⟩ = some (.slice A4_8' l1_8.length c4_8') ∧ w'.cell? ⟨w4.heap.size, 9, none⟩ = some (.slice A4_9' l1_9.length c4_9') ∧ w'.cell? ⟨w4.heap.size, 10, none⟩ = some (.slice A4_10' l1_10.length c4_10') ∧ w'.cell? ⟨W.heap.size + 1, 0, none⟩ = some (.int .i64 x1_0) ∧ w'.cell? ⟨W.heap.size + 1, 1, none⟩ = some (.int .i64 x1_1) ∧ w'.cell? ⟨W.heap.size + 1, 2, none⟩ = some (.int .i64 x1_2) ∧ w'.cell? ⟨W.heap.size + 1, 3, none⟩ = some (.slice A1_3 l1_3.length c1_3) ∧ w'.cell? ⟨W.heap.size + 1, 4, none⟩ = some (.slice A1_4 l1_4.length c1_4) ∧ w'.cell? ⟨W.heap.size + 1, 5, none⟩ = some (.int .i64 x1_5) ∧ w'.cell? ⟨W.heap.size + 1, 6, none⟩ = some (.int .i64 x1_6) ∧ w'.cell? ⟨W.heap.size + 1, 7, none⟩ = some (.slice A1_7 l1_7.length c1_7) ∧ w'.cell? ⟨W.heap.size + 1, 8, none⟩ = some (.slice A1_8 l1_8.length c1_8) ∧ w'.cell? ⟨W.heap.size + 1, 9, none⟩ = some (.slice A1_9 l1_9.length c1_9) ∧ w'.cell? ⟨W.heap.size + 1, 10, none⟩ = some (.slice A1_10 l1_10.length c1_10))
    (first
      | exact HK0.out
      | exact HK1.out
      | exact HK2.out)
    (first
      | (go_at_call_of 11 (Value.int IntKind.i64 x1_0); refine (toBlock_any x1_0 x1_1 x1_2 x1_5 x1_6 _ _ _ _ _ _ l1_3 l1_4 l1_7 l1_8 l1_9 l1_10 _ (hs1_3.up HE0.out.bel) (hs1_4.up HE0.out.bel) (hs1_7.up HE0.out.bel) (hs1_8.up HE0.out.bel) (hs1_9.up HE0.out.bel) (hs1_10.up HE0.out.bel) hL1_3 hL1_4 hL1_7 hL1_8 hL1_9 hN1_9 hL1_10 hN1_10).mono ?_; rintro e w8 ⟨u8_3, u8_4, u8_7, u8_8, u8_9, u8_10, vs8_9, vs8_10, rfl, hv8_9, hv8_10, K⟩; have HV8_9 := Lib.hid hv8_9; have HV8_10 := Lib.hid hv8_10; obtain ⟨A8_3', c8_3', rfl⟩ := K.openB' (.head _); obtain ⟨A8_4', c8_4', rfl⟩ := K.openB' (.tail _ (.head _)); obtain ⟨A8_7', c8_7', rfl⟩ := K.openB' (.tail _ (.tail _ (.head _))); obtain ⟨A8_8', c8_8', rfl⟩ := K.openB' (.tail _ (.tail _ (.tail _ (.head _)))); obtain ⟨A8_9', c8_9', rfl⟩ := K.openS hv8_9 (.tail _ (.tail _ (.tail _ (.tail _ (.head _))))); clear hv8_9; obtain ⟨A8_10', c8_10', rfl⟩ := K.openS hv8_10 (.tail _ (.tail _ (.tail _ (.tail _ (.tail _ (.head _)))))); clear hv8_10; have HT := HE0.out.moreF K; clear K; have HX : InvF W w8 [segB 5 (.slice A8_3' l1_3.length c8_3') l1_3, segB 5 (.slice A8_4' l1_4.length c8_4') l1_4, segB 5 (.slice A8_7' l1_7.length c8_7') l1_7, segB 5 (.slice A8_8' l1_8.length c8_8') l1_8, segS 24 5 (.slice A8_9' l1_9.length c8_9') vs8_9 l1_9, segS 24 5 (.slice A8_10' l1_10.length c8_10') vs8_10 l1_10, segS 24 5 u6 vs6 R, segX 42 w4.heap.size [.int .i64 x1_0, .int .i64 x1_1, .int .i64 x1_2, (.slice A4_3' l1_3.length c4_3'), (.slice A4_4' l1_4.length c4_4'), .int .i64 x1_5, .int .i64 x1_6, (.slice A4_7' l1_7.length c4_7'), (.slice A4_8' l1_8.length c4_8'), (.slice A4_9' l1_9.length c4_9'), (.slice A4_10' l1_10.length c4_10')], segB 5 (.slice A4_3' l1_3.length c4_3') l1_3, segB 5 (.slice A4_4' l1_4.length c4_4') l1_4, segB 5 (.slice A4_7' l1_7.length c4_7') l1_7, segB 5 (.slice A4_8' l1_8.length c4_8') l1_8, segS 24 5 (.slice A4_9' l1_9.length c4_9') vs4_9 l1_9, segS 24 5 (.slice A4_10' l1_10.length c4_10') vs4_10 l1_10, segS 24 5 u3 vs3 R, segX 31 (W.heap.size + 1) [.int .i64 x1_0, .int .i64 x1_1, .int .i64 x1_2, (.slice A1_3 l1_3.length c1_3), (.slice A1_4 l1_4.length c1_4), .int .i64 x1_5, .int .i64 x1_6, (.slice A1_7 l1_7.length c1_7), (.slice A1_8 l1_8.length c1_8), (.slice A1_9 l1_9.length c1_9), (.slice A1_10 l1_10.length c1_10)], segX 23 W.heap.size [.int .i64 x0_0, .int .i64 x0_1, .int .i64 x0_2, .int .i64 x0_3, .int .i64 x0_4]] := HT; clear HT; have HE1 := Lib.hid HX; clear HX; have HK1 := Lib.hid (ten11 (HE1.out.c11 (.tail _ (.tail _ (.tail _ (.tail _ (.tail _ (.tail _ (.tail _ (.head _))))))))) (HE1.out.c11 (.tail _ (.tail _ (.tail _ (.tail _ (.tail _ (.tail _ (.tail _ (.tail _ (.tail _ (.tail _ (.tail _ (.tail _ (.tail _ (.tail _ (.tail _ (.head _)))))))))))))))))))
      | (go_at_call 14; refine (eqBlock_any x1_0 x1_1 x1_2 x1_5 x1_6 _ _ _ _ _ _ _ _ _ _ _ _ l1_3 l1_4 l1_7 l1_8 l1_9 l1_10 _ (HE1.out.slB 5 (.tail _ (.tail _ (.tail _ (.tail _ (.tail _ (.tail _ (.tail _ (.tail _ (.head _)))))))))) (HE1.out.slB 5 (.tail _ (.tail _ (.tail _ (.tail _ (.tail _ (.tail _ (.tail _ (.tail _ (.tail _ (.head _))))))))))) (HE1.out.slB 5 (.tail _ (.tail _ (.tail _ (.tail _ (.tail _ (.tail _ (.tail _ (.tail _ (.tail _ (.tail _ (.head _)))))))))))) (HE1.out.slB 5 (.tail _ (.tail _ (.tail _ (.tail _ (.tail _ (.tail _ (.tail _ (.tail _ (.tail _ (.tail _ (.tail _ (.head _))))))))))))) (HE1.out.slS 24 5 HV4_9.out (.tail _ (.tail _ (.tail _ (.tail _ (.tail _ (.tail _ (.tail _ (.tail _ (.tail _ (.tail _ (.tail _ (.tail _ (.head _)))))))))))))) (HE1.out.slS 24 5 HV4_10.out (.tail _ (.tail _ (.tail _ (.tail _ (.tail _ (.tail _ (.tail _ (.tail _ (.tail _ (.tail _ (.tail _ (.tail _ (.tail _ (.head _))))))))))))))) (HE1.out.slB 5 (.head _)) (HE1.out.slB 5 (.tail _ (.head _))) (HE1.out.slB 5 (.tail _ (.tail _ (.head _)))) (HE1.out.slB 5 (.tail _ (.tail _ (.tail _ (.head _))))) (HE1.out.slS 24 5 HV8_9.out (.tail _ (.tail _ (.tail _ (.tail _ (.head _)))))) (HE1.out.slS 24 5 HV8_10.out (.tail _ (.tail _ (.tail _ (.tail _ (.tail _ (.head _)))))))).mono ?_; rintro e w9 ⟨rfl, hb⟩; have HX := HE1.out.up hb; clear hb; have HE2 := Lib.hid HX; clear HX; have HK2 := Lib.hid (ten11 (HE2.out.c11 (.tail _ (.tail _ (.tail _ (.tail _ (.tail _ (.tail _ (.tail _ (.head _))))))))) (HE2.out.c11 (.tail _ (.tail _ (.tail _ (.tail _ (.tail _ (.tail _ (.tail _ (.tail _ (.tail _ (.tail _ (.tail _ (.tail _ (.tail _ (.tail _ (.tail _ (.head _))))))))))))))))))))
  clear H b17_0 b17_1 b17_2 b17_3 b17_4 b17_5 b17_6 b17_7 b17_8 b17_9 b17_10 b18_0 b18_1 b18_2 b18_3 b18_4 b18_5 b18_6 b18_7 b18_8 b18_9 b18_10 b19_0 b19_1 b19_2 b19_3 b19_4
  have H := HE2.out
  clear HE0 HK0 HE1 HK1 HE2 HK2
  replace H := H.sub (qs := [segS 24 5 u6 vs6 R, segX 42 w4.heap.size [.int .i64 x1_0, .int .i64 x1_1, .int .i64 x1_2, (.slice A4_3' l1_3.length c4_3'), (.slice A4_4' l1_4.length c4_4'), .int .i64 x1_5, .int .i64 x1_6, (.slice A4_7' l1_7.length c4_7'), (.slice A4_8' l1_8.length c4_8'), (.slice A4_9' l1_9.length c4_9'), (.slice A4_10' l1_10.length c4_10')], segB 5 (.slice A4_3' l1_3.length c4_3') l1_3, segB 5 (.slice A4_4' l1_4.length c4_4') l1_4, segB 5 (.slice A4_7' l1_7.length c4_7') l1_7, segB 5 (.slice A4_8' l1_8.length c4_8') l1_8, segS 24 5 (.slice A4_9' l1_9.length c4_9') vs4_9 l1_9, segS 24 5 (.slice A4_10' l1_10.length c4_10') vs4_10 l1_10, segS 24 5 u3 vs3 R, segX 31 (W.heap.size + 1) [.int .i64 x1_0, .int .i64 x1_1, .int .i64 x1_2, (.slice A1_3 l1_3.length c1_3), (.slice A1_4 l1_4.length c1_4), .int .i64 x1_5, .int .i64 x1_6, (.slice A1_7 l1_7.length c1_7), (.slice A1_8 l1_8.length c1_8), (.slice A1_9 l1_9.length c1_9), (.slice A1_10 l1_10.length c1_10)], segX 23 W.heap.size [.int .i64 x0_0, .int .i64 x0_1, .int .i64 x0_2, .int .i64 x0_3, .int .i64 x0_4]]) (.cons _ (.cons _ (.cons _ (.cons _ (.cons _ (.cons _ (.cons_cons _ (.cons_cons _ (.cons_cons _ (.cons_cons _ (.cons_cons _ (.cons_cons _ (.cons_cons _ (.cons_cons _ (.cons_cons _ (.cons_cons _ (.cons_cons _ .slnil)))))))))))))))))
  replace H : InvF W _ [segS 24 5 (.slice A4_10' l1_10.length c4_10') vs4_10 l1_10, segS 24 5 u6 vs6 R, segX 42 w4.heap.size [.int .i64 x1_0, .int .i64 x1_1, .int .i64 x1_2, (.slice A4_3' l1_3.length c4_3'), (.slice A4_4' l1_4.length c4_4'), .int .i64 x1_5, .int .i64 x1_6, (.slice A4_7' l1_7.length c4_7'), (.slice A4_8' l1_8.length c4_8'), (.slice A4_9' l1_9.length c4_9'), (.slice A4_10' l1_10.length c4_10')], segB 5 (.slice A4_3' l1_3.length c4_3') l1_3, segB 5 (.slice A4_4' l1_4.length c4_4') l1_4, segB 5 (.slice A4_7' l1_7.length c4_7') l1_7, segB 5 (.slice A4_8' l1_8.length c4_8') l1_8, segS 24 5 (.slice A4_9' l1_9.length c4_9') vs4_9 l1_9, segS 24 5 u3 vs3 R, segX 31 (W.heap.size + 1) [.int .i64 x1_0, .int .i64 x1_1, .int .i64 x1_2, (.slice A1_3 l1_3.length c1_3), (.slice A1_4 l1_4.length c1_4), .int .i64 x1_5, .int .i64 x1_6, (.slice A1_7 l1_7.length c1_7), (.slice A1_8 l1_8.length c1_8), (.slice A1_9 l1_9.length c1_9), (.slice A1_10 l1_10.length c1_10)], segX 23 W.heap.size [.int .i64 x0_0, .int .i64 x0_1, .int .i64 x0_2, .int .i64 x0_3, .int .i64 x0_4]] := H.front 7 rfl
  replace H : InvF W _ [segS 24 5 (.slice A4_9' l1_9.length c4_9') vs4_9 l1_9, segS 24 5 (.slice A4_10' l1_10.length c4_10') vs4_10 l1_10, segS 24 5 u6 vs6 R, segX 42 w4.heap.size [.int .i64 x1_0, .int .i64 x1_1, .int .i64 x1_2, (.slice A4_3' l1_3.length c4_3'), (.slice A4_4' l1_4.length c4_4'), .int .i64 x1_5, .int .i64 x1_6, (.slice A4_7' l1_7.length c4_7'), (.slice A4_8' l1_8.length c4_8'), (.slice A4_9' l1_9.length c4_9'), (.slice A4_10' l1_10.length c4_10')], segB 5 (.slice A4_3' l1_3.length c4_3') l1_3, segB 5 (.slice A4_4' l1_4.length c4_4') l1_4, segB 5 (.slice A4_7' l1_7.length c4_7') l1_7, segB 5 (.slice A4_8' l1_8.length c4_8') l1_8, segS 24 5 u3 vs3 R, segX 31 (W.heap.size + 1) [.int .i64 x1_0, .int .i64 x1_1, .int .i64 x1_2, (.slice A1_3 l1_3.length c1_3), (.slice A1_4 l1_4.length c1_4), .int .i64 x1_5, .int .i64 x1_6, (.slice A1_7 l1_7.length c1_7), (.slice A1_8 l1_8.length c1_8), (.slice A1_9 l1_9.length c1_9), (.slice A1_10 l1_10.length c1_10)], segX 23 W.heap.size [.int .i64 x0_0, .int .i64 x0_1, .int .i64 x0_2, .int .i64 x0_3, .int .i64 x0_4]] := H.front 7 rfl
  replace H : InvF W _ [segB 5 (.slice A4_8' l1_8.length c4_8') l1_8, segS 24 5 (.slice A4_9' l1_9.length c4_9') vs4_9 l1_9, segS 24 5 (.slice A4_10' l1_10.length c4_10') vs4_10 l1_10, segS 24 5 u6 vs6 R, segX 42 w4.heap.size [.int .i64 x1_0, .int .i64 x1_1, .int .i64 x1_2, (.slice A4_3' l1_3.length c4_3'), (.slice A4_4' l1_4.length c4_4'), .int .i64 x1_5, .int .i64 x1_6, (.slice A4_7' l1_7.length c4_7'), (.slice A4_8' l1_8.length c4_8'), (.slice A4_9' l1_9.length c4_9'), (.slice A4_10' l1_10.length c4_10')], segB 5 (.slice A4_3' l1_3.length c4_3') l1_3, segB 5 (.slice A4_4' l1_4.length c4_4') l1_4, segB 5 (.slice A4_7' l1_7.length c4_7') l1_7, segS 24 5 u3 vs3 R, segX 31 (W.heap.size + 1) [.int .i64 x1_0, .int .i64 x1_1, .int .i64 x1_2, (.slice A1_3 l1_3.length c1_3), (.slice A1_4 l1_4.length c1_4), .int .i64 x1_5, .int .i64 x1_6, (.slice A1_7 l1_7.length c1_7), (.slice A1_8 l1_8.length c1_8), (.slice A1_9 l1_9.length c1_9), (.slice A1_10 l1_10.length c1_10)], segX 23 W.heap.size [.int .i64 x0_0, .int .i64 x0_1, .int .i64 x0_2, .int .i64 x0_3, .int .i64 x0_4]] := H.front 7 rfl
  replace H : InvF W _ [segB 5 (.slice A4_7' l1_7.length c4_7') l1_7, segB 5 (.slice A4_8' l1_8.length c4_8') l1_8, segS 24 5 (.slice A4_9' l1_9.length c4_9') vs4_9 l1_9, segS 24 5 (.slice A4_10' l1_10.length c4_10') vs4_10 l1_10, segS 24 5 u6 vs6 R, segX 42 w4.heap.size [.int .i64 x1_0, .int .i64 x1_1, .int .i64 x1_2, (.slice A4_3' l1_3.length c4_3'), (.slice A4_4' l1_4.length c4_4'), .int .i64 x1_5, .int .i64 x1_6, (.slice A4_7' l1_7.length c4_7'), (.slice A4_8' l1_8.length c4_8'), (.slice A4_9' l1_9.length c4_9'), (.slice A4_10' l1_10.length c4_10')], segB 5 (.slice A4_3' l1_3.length c4_3') l1_3, segB 5 (.slice A4_4' l1_4.length c4_4') l1_4, segS 24 5 u3 vs3 R, segX 31 (W.heap.size + 1) [.int .i64 x1_0, .int .i64 x1_1, .int .i64 x1_2, (.slice A1_3 l1_3.length c1_3), (.slice A1_4 l1_4.length c1_4), .int .i64 x1_5, .int .i64 x1_6, (.slice A1_7 l1_7.length c1_7), (.slice A1_8 l1_8.length c1_8), (.slice A1_9 l1_9.length c1_9), (.slice A1_10 l1_10.length c1_10)], segX 23 W.heap.size [.int .i64 x0_0, .int .i64 x0_1, .int .i64 x0_2, .int .i64 x0_3, .int .i64 x0_4]] := H.front 7 rfl
  replace H : InvF W _ [segB 5 (.slice A4_4' l1_4.length c4_4') l1_4, segB 5 (.slice A4_7' l1_7.length c4_7') l1_7, segB 5 (.slice A4_8' l1_8.length c4_8') l1_8, segS 24 5 (.slice A4_9' l1_9.length c4_9') vs4_9 l1_9, segS 24 5 (.slice A4_10' l1_10.length c4_10') vs4_10 l1_10, segS 24 5 u6 vs6 R, segX 42 w4.heap.size [.int .i64 x1_0, .int .i64 x1_1, .int .i64 x1_2, (.slice A4_3' l1_3.length c4_3'), (.slice A4_4' l1_4.length c4_4'), .int .i64 x1_5, .int .i64 x1_6, (.slice A4_7' l1_7.length c4_7'), (.slice A4_8' l1_8.length c4_8'), (.slice A4_9' l1_9.length c4_9'), (.slice A4_10' l1_10.length c4_10')], segB 5 (.slice A4_3' l1_3.length c4_3') l1_3, segS 24 5 u3 vs3 R, segX 31 (W.heap.size + 1) [.int .i64 x1_0, .int .i64 x1_1, .int .i64 x1_2, (.slice A1_3 l1_3.length c1_3), (.slice A1_4 l1_4.length c1_4), .int .i64 x1_5, .int .i64 x1_6, (.slice A1_7 l1_7.length c1_7), (.slice A1_8 l1_8.length c1_8), (.slice A1_9 l1_9.length c1_9), (.slice A1_10 l1_10.length c1_10)], segX 23 W.heap.size [.int .i64 x0_0, .int .i64 x0_1, .int .i64 x0_2, .int .i64 x0_3, .int .i64 x0_4]] := H.front 7 rfl
  replace H : InvF W _ [segB 5 (.slice A4_3' l1_3.length c4_3') l1_3, segB 5 (.slice A4_4' l1_4.length c4_4') l1_4, segB 5 (.slice A4_7' l1_7.length c4_7') l1_7, segB 5 (.slice A4_8' l1_8.length c4_8') l1_8, segS 24 5 (.slice A4_9' l1_9.length c4_9') vs4_9 l1_9, segS 24 5 (.slice A4_10' l1_10.length c4_10') vs4_10 l1_10, segS 24 5 u6 vs6 R, segX 42 w4.heap.size [.int .i64 x1_0, .int .i64 x1_1, .int .i64 x1_2, (.slice A4_3' l1_3.length c4_3'), (.slice A4_4' l1_4.length c4_4'), .int .i64 x1_5, .int .i64 x1_6, (.slice A4_7' l1_7.length c4_7'), (.slice A4_8' l1_8.length c4_8'), (.slice A4_9' l1_9.length c4_9'), (.slice A4_10' l1_10.length c4_10')], segS 24 5 u3 vs3 R, segX 31 (W.heap.size + 1) [.int .i64 x1_0, .int .i64 x1_1, .int .i64 x1_2, (.slice A1_3 l1_3.length c1_3), (.slice A1_4 l1_4.length c1_4), .int .i64 x1_5, .int .i64 x1_6, (.slice A1_7 l1_7.length c1_7), (.slice A1_8 l1_8.length c1_8), (.slice A1_9 l1_9.length c1_9), (.slice A1_10 l1_10.length c1_10)], segX 23 W.heap.size [.int .i64 x0_0, .int .i64 x0_1, .int .i64 x0_2, .int .i64 x0_3, .int .i64 x0_4]] := H.front 7 rfl
  obtain ⟨b20_0, b20_1, b20_2, b20_3, b20_4, b20_5, b20_6, b20_7, b20_8, b20_9, b20_10⟩ := H.c11 (.tail _ (.tail _ (.tail _ (.tail _ (.tail _ (.tail _ (.tail _ (.head _))))))))
  obtain ⟨b21_0, b21_1, b21_2, b21_3, b21_4, b21_5, b21_6, b21_7, b21_8, b21_9, b21_10⟩ := H.c11 (.tail _ (.tail _ (.tail _ (.tail _ (.tail _ (.tail _ (.tail _ (.tail _ (.tail _ (.head _))))))))))
  obtain ⟨b22_0, b22_1, b22_2, b22_3, b22_4⟩ := H.c5 (.tail _ (.tail _ (.tail _ (.tail _ (.tail _ (.tail _ (.tail _ (.tail _ (.tail _ (.tail _ (.head _)))))))))))
  go_wp2_with fail
  refine (markBlock_z x1_0 x1_1 x1_2 x1_5 x1_6 W _ _ _ _ _ _ _ _ _ l1_3 l1_4 l1_7 l1_8 l1_9 l1_10 _ (1) _ HV4_9.out HV4_10.out H rfl (by omega) (by omega) (by omega) (by omega) (by omega) (by omega) (by omega)).mono ?_
  rintro e w10 ⟨rfl, K⟩
  replace H := K
  clear K
  have HV4_9m10 : Hid (vs4_9.length = (marksS (1 + l1_3.length + l1_4.length + l1_7.length + l1_8.length) l1_9).length) := Lib.hid (by rw [marksS_length]; exact HV4_9.out)
  have HV4_10m10 : Hid (vs4_10.length = (marksS (1 + l1_3.length + l1_4.length + l1_7.length + l1_8.length + sumL l1_9) l1_10).length) := Lib.hid (by rw [marksS_length]; exact HV4_10.out)
  replace H : InvF W w10 [segB 5 (.slice A4_3' l1_3.length c4_3') (marks (1) l1_3.length), segB 5 (.slice A4_4' l1_4.length c4_4') (marks (1 + l1_3.length) l1_4.length), segB 5 (.slice A4_7' l1_7.length c4_7') (marks (1 + l1_3.length + l1_4.length) l1_7.length), segB 5 (.slice A4_8' l1_8.length c4_8') (marks (1 + l1_3.length + l1_4.length + l1_7.length) l1_8.length), segS 24 5 (.slice A4_9' l1_9.length c4_9') vs4_9 (marksS (1 + l1_3.length + l1_4.length + l1_7.length + l1_8.length) l1_9), segS 24 5 (.slice A4_10' l1_10.length c4_10') vs4_10 (marksS (1 + l1_3.length + l1_4.length + l1_7.length + l1_8.length + sumL l1_9) l1_10), segS 24 5 u6 vs6 R, segX 42 w4.heap.size [.int .i64 x1_0, .int .i64 x1_1, .int .i64 x1_2, (.slice A4_3' l1_3.length c4_3'), (.slice A4_4' l1_4.length c4_4'), .int .i64 x1_5, .int .i64 x1_6, (.slice A4_7' l1_7.length c4_7'), (.slice A4_8' l1_8.length c4_8'), (.slice A4_9' l1_9.length c4_9'), (.slice A4_10' l1_10.length c4_10')], segS 24 5 u3 vs3 R, segX 31 (W.heap.size + 1) [.int .i64 x1_0, .int .i64 x1_1, .int .i64 x1_2, (.slice A1_3 l1_3.length c1_3), (.slice A1_4 l1_4.length c1_4), .int .i64 x1_5, .int .i64 x1_6, (.slice A1_7 l1_7.length c1_7), (.slice A1_8 l1_8.length c1_8), (.slice A1_9 l1_9.length c1_9), (.slice A1_10 l1_10.length c1_10)], segX 23 W.heap.size [.int .i64 x0_0, .int .i64 x0_1, .int .i64 x0_2, .int .i64 x0_3, .int .i64 x0_4]] := H
  have hltk : ¬ ((1 : Int) + (l1_3.length : Int) + (l1_4.length : Int) + (l1_7.length : Int) + (l1_8.length : Int) + (sumL l1_9 : Int) + (sumL l1_10 : Int) < 0) := by omega
  clear b20_0 b20_1 b20_2 b20_3 b20_4 b20_5 b20_6 b20_7 b20_8 b20_9 b20_10 b21_0 b21_1 b21_2 b21_3 b21_4 b21_5 b21_6 b21_7 b21_8 b21_9 b21_10 b22_0 b22_1 b22_2 b22_3 b22_4
  obtain ⟨b23_0, b23_1, b23_2, b23_3, b23_4, b23_5, b23_6, b23_7, b23_8, b23_9, b23_10⟩ := H.c11 (.tail _ (.tail _ (.tail _ (.tail _ (.tail _ (.tail _ (.tail _ (.head _))))))))
  obtain ⟨b24_0, b24_1, b24_2, b24_3, b24_4, b24_5, b24_6, b24_7, b24_8, b24_9, b24_10⟩ := H.c11 (.tail _ (.tail _ (.tail _ (.tail _ (.tail _ (.tail _ (.tail _ (.tail _ (.tail _ (.head _))))))))))
  obtain ⟨b25_0, b25_1, b25_2, b25_3, b25_4⟩ := H.c5 (.tail _ (.tail _ (.tail _ (.tail _ (.tail _ (.tail _ (.tail _ (.tail _ (.tail _ (.tail _ (.head _)))))))))))
  go_wp2_with fail
  refine (eqByteSS_any _ _ R _ (H.slS 24 5 HV6.out (.tail _ (.tail _ (.tail _ (.tail _ (.tail _ (.tail _ (.head _)))))))) (H.slS 24 5 HV3.out (.tail _ (.tail _ (.tail _ (.tail _ (.tail _ (.tail _ (.tail _ (.tail _ (.head _))))))))))).mono ?_
  rintro e _ ⟨rfl, d11, rfl⟩
  replace H := H.drewN d11
  replace H := H.sub (qs := [segS 24 5 u6 vs6 R, segS 24 5 u3 vs3 R, segX 31 (W.heap.size + 1) [.int .i64 x1_0, .int .i64 x1_1, .int .i64 x1_2, (.slice A1_3 l1_3.length c1_3), (.slice A1_4 l1_4.length c1_4), .int .i64 x1_5, .int .i64 x1_6, (.slice A1_7 l1_7.length c1_7), (.slice A1_8 l1_8.length c1_8), (.slice A1_9 l1_9.length c1_9), (.slice A1_10 l1_10.length c1_10)], segX 23 W.heap.size [.int .i64 x0_0, .int .i64 x0_1, .int .i64 x0_2, .int .i64 x0_3, .int .i64 x0_4]]) (.cons _ (.cons _ (.cons _ (.cons _ (.cons _ (.cons _ (.cons_cons _ (.cons _ (.cons_cons _ (.cons_cons _ (.cons_cons _ .slnil)))))))))))
  clear b23_0 b23_1 b23_2 b23_3 b23_4 b23_5 b23_6 b23_7 b23_8 b23_9 b23_10 b24_0 b24_1 b24_2 b24_3 b24_4 b24_5 b24_6 b24_7 b24_8 b24_9 b24_10 b25_0 b25_1 b25_2 b25_3 b25_4
  obtain ⟨b26_0, b26_1, b26_2, b26_3, b26_4, b26_5, b26_6, b26_7, b26_8, b26_9, b26_10⟩ := H.c11 (.tail _ (.tail _ (.head _)))
  obtain ⟨b27_0, b27_1, b27_2, b27_3, b27_4⟩ := H.c5 (.tail _ (.tail _ (.tail _ (.head _))))
  go_wp2_with fail
  refine (markByteSS_z W _ _ _ R _ (1) _ HV6.out H rfl (by omega) (by omega)).mono ?_
  rintro e w12 ⟨rfl, K⟩
  replace H := K
  clear K
  have HV12m : Hid (vs6.length = (marksS (1) R).length) := Lib.hid (by rw [marksS_length]; exact HV6.out)
  clear b26_0 b26_1 b26_2 b26_3 b26_4 b26_5 b26_6 b26_7 b26_8 b26_9 b26_10 b27_0 b27_1 b27_2 b27_3 b27_4
  obtain ⟨b28_0, b28_1, b28_2, b28_3, b28_4, b28_5, b28_6, b28_7, b28_8, b28_9, b28_10⟩ := H.c11 (.tail _ (.tail _ (.head _)))
  obtain ⟨b29_0, b29_1, b29_2, b29_3, b29_4⟩ := H.c5 (.tail _ (.tail _ (.tail _ (.head _))))
  go_wp2_with fail
  refine (heldByteSS_z _ 1 _ R _ (H.slS 24 5 HV12m.out (.head _)) rfl (by omega) (by omega)).mono ?_
  rintro e _ ⟨rfl, d13, rfl⟩
  replace H := H.drewN d13
  have hltL : ¬ ((1 : Int) + (sumL R : Int) < 0) := by omega
  have hneL : ((1 : Int) + (sumL R : Int) != 1 + (sumL R : Int)) = false := by simp
  clear b28_0 b28_1 b28_2 b28_3 b28_4 b28_5 b28_6 b28_7 b28_8 b28_9 b28_10 b29_0 b29_1 b29_2 b29_3 b29_4
  obtain ⟨b30_0, b30_1, b30_2, b30_3, b30_4, b30_5, b30_6, b30_7, b30_8, b30_9, b30_10⟩ := H.c11 (.tail _ (.tail _ (.head _)))
  obtain ⟨b31_0, b31_1, b31_2, b31_3, b31_4⟩ := H.c5 (.tail _ (.tail _ (.tail _ (.head _))))
  have HE0 := Lib.hid (H.drewN 1)
  have HK0 := Lib.hid (ten (HE0.out.c5 (.tail _ (.tail _ (.tail _ (.head _))))) (HE0.out.c11 (.tail _ (.tail _ (.head _)))))
  go_wp2_with fail
  go_region_held3 (fun w' => w'.cell? ⟨W.heap.size, 0, none⟩ = some (.int .i64 x0_0) ∧ w'.cell? ⟨W.heap.size, 1, none⟩ = some (.int .i64 x0_1) ∧ w'.cell? ⟨W.heap.size, 2, none⟩ = some (.int .i64 x0_2) ∧ w'.cell? ⟨W.heap.size, 3, none⟩ = some (.int .i64 x0_3) ∧ w'.cell? ⟨W.heap.size, 4, none⟩ = some (.int .i64 x0_4) ∧ w'.cell? ⟨W.heap.size + 1, 0, none⟩ = some (.int .i64 x1_0) ∧ w'.cell? ⟨W.heap.size + 1, 1, none⟩ = some (.int .i64 x1_1) ∧ w'.cell? ⟨W.heap.size + 1, 2, none⟩ = some (.int .i64 x1_2) ∧ w'.cell? ⟨W.heap.size + 1, 3, none⟩ = some (.slice A1_3 l1_3.length c1_3) ∧ w'.cell? ⟨W.heap.size + 1, 4, none⟩ = some (.slice A1_4 l1_4.length c1_4) ∧ w'.cell? ⟨W.heap.size + 1, 5, none⟩ = some (.int .i64 x1_5) ∧ w'.cell? ⟨W.heap.size + 1, 6, none⟩ = some (.int .i64 x1_6) ∧ w'.cell? ⟨W.heap.size + 1, 7, none⟩ = some (.slice A1_7 l1_7.length c1_7) ∧ w'.cell? ⟨W.heap.size + 1, 8, none⟩ = some (.slice A1_8 l1_8.length c1_8) ∧ w'.cell? ⟨W.heap.size + 1, 9, none⟩ = some (.slice A1_9 l1_9.length c1_9) ∧ w'.cell? ⟨W.heap.size + 1, 10, none⟩ = some (.slice A1_10 l1_10.length c1_10))
    (first
      | exact HK0.out
      | exact HK1.out
      | exact HK2.out
      | exact HK3.out)
    (first
      | (go_at_call_of 9 (Value.int IntKind.i64 x0_0); refine (toLimits_any x0_0 x0_1 x0_2 x0_3 x0_4   _  ).mono ?_; rintro e w14 ⟨rfl, hb⟩; have HX := HE0.out.up hb; clear hb; have HE1 := Lib.hid HX; clear HX; have HK1 := Lib.hid (ten (HE1.out.c5 (.tail _ (.tail _ (.tail _ (.head _))))) (HE1.out.c11 (.tail _ (.tail _ (.head _))))))
      | (go_at_call_of 11 (Value.int IntKind.i64 x1_0); refine (toBlock_any x1_0 x1_1 x1_2 x1_5 x1_6 _ _ _ _ _ _ l1_3 l1_4 l1_7 l1_8 l1_9 l1_10 _ (hs1_3.up HE1.out.bel) (hs1_4.up HE1.out.bel) (hs1_7.up HE1.out.bel) (hs1_8.up HE1.out.bel) (hs1_9.up HE1.out.bel) (hs1_10.up HE1.out.bel) hL1_3 hL1_4 hL1_7 hL1_8 hL1_9 hN1_9 hL1_10 hN1_10).mono ?_; rintro e w15 ⟨u15_3, u15_4, u15_7, u15_8, u15_9, u15_10, vs15_9, vs15_10, rfl, hv15_9, hv15_10, K⟩; have HV15_9 := Lib.hid hv15_9; have HV15_10 := Lib.hid hv15_10; obtain ⟨A15_3', c15_3', rfl⟩ := K.openB' (.head _); obtain ⟨A15_4', c15_4', rfl⟩ := K.openB' (.tail _ (.head _)); obtain ⟨A15_7', c15_7', rfl⟩ := K.openB' (.tail _ (.tail _ (.head _))); obtain ⟨A15_8', c15_8', rfl⟩ := K.openB' (.tail _ (.tail _ (.tail _ (.head _)))); obtain ⟨A15_9', c15_9', rfl⟩ := K.openS hv15_9 (.tail _ (.tail _ (.tail _ (.tail _ (.head _))))); clear hv15_9; obtain ⟨A15_10', c15_10', rfl⟩ := K.openS hv15_10 (.tail _ (.tail _ (.tail _ (.tail _ (.tail _ (.head _)))))); clear hv15_10; have HT := HE1.out.moreF K; clear K; have HX : InvF W w15 [segB 5 (.slice A15_3' l1_3.length c15_3') l1_3, segB 5 (.slice A15_4' l1_4.length c15_4') l1_4, segB 5 (.slice A15_7' l1_7.length c15_7') l1_7, segB 5 (.slice A15_8' l1_8.length c15_8') l1_8, segS 24 5 (.slice A15_9' l1_9.length c15_9') vs15_9 l1_9, segS 24 5 (.slice A15_10' l1_10.length c15_10') vs15_10 l1_10, segS 24 5 u6 vs6 (marksS (1) R), segS 24 5 u3 vs3 R, segX 31 (W.heap.size + 1) [.int .i64 x1_0, .int .i64 x1_1, .int .i64 x1_2, (.slice A1_3 l1_3.length c1_3), (.slice A1_4 l1_4.length c1_4), .int .i64 x1_5, .int .i64 x1_6, (.slice A1_7 l1_7.length c1_7), (.slice A1_8 l1_8.length c1_8), (.slice A1_9 l1_9.length c1_9), (.slice A1_10 l1_10.length c1_10)], segX 23 W.heap.size [.int .i64 x0_0, .int .i64 x0_1, .int .i64 x0_2, .int .i64 x0_3, .int .i64 x0_4]] := HT; clear HT; have HE2 := Lib.hid HX; clear HX; have HK2 := Lib.hid (ten (HE2.out.c5 (.tail _ (.tail _ (.tail _ (.tail _ (.tail _ (.tail _ (.tail _ (.tail _ (.tail _ (.head _))))))))))) (HE2.out.c11 (.tail _ (.tail _ (.tail _ (.tail _ (.tail _ (.tail _ (.tail _ (.tail _ (.head _))))))))))))
      | (go_at_call 32; refine (implBlockPath_any x0_0 x0_1 x0_2 x0_3 x0_4 x1_0 x1_1 x1_2 x1_5 x1_6 n2 _ _ _ _ _ _ l1_3 l1_4 l1_7 l1_8 l1_9 l1_10 _  (HE2.out.slB 5 (.head _)) (HE2.out.slB 5 (.tail _ (.head _))) (HE2.out.slB 5 (.tail _ (.tail _ (.head _)))) (HE2.out.slB 5 (.tail _ (.tail _ (.tail _ (.head _))))) (HE2.out.slS 24 5 HV15_9.out (.tail _ (.tail _ (.tail _ (.tail _ (.head _)))))) (HE2.out.slS 24 5 HV15_10.out (.tail _ (.tail _ (.tail _ (.tail _ (.tail _ (.head _))))))) (by omega) (by omega) (by omega) (hgI.up HE2.out.bel) (hg.up HE2.out.bel)).mono ?_; rw [← HR.out, ← HB0.out]; rintro e w16 ⟨u16, vs16, rfl, hv16, K⟩; have HV16 := Lib.hid hv16; clear hv16; have HX := HE2.out.more (s := segS 24 5 u16 vs16 R) K; clear K; have HE3 := Lib.hid HX; clear HX; have HK3 := Lib.hid (ten (HE3.out.c5 (.tail _ (.tail _ (.tail _ (.tail _ (.tail _ (.tail _ (.tail _ (.tail _ (.tail _ (.tail _ (.head _)))))))))))) (HE3.out.c11 (.tail _ (.tail _ (.tail _ (.tail _ (.tail _ (.tail _ (.tail _ (.tail _ (.tail _ (.head _))))))))))))))
  clear H b30_0 b30_1 b30_2 b30_3 b30_4 b30_5 b30_6 b30_7 b30_8 b30_9 b30_10 b31_0 b31_1 b31_2 b31_3 b31_4
  have H := HE3.out
  clear HE0 HK0 HE1 HK1 HE2 HK2 HE3 HK3
  obtain ⟨b32_0, b32_1, b32_2, b32_3, b32_4, b32_5, b32_6, b32_7, b32_8, b32_9, b32_10⟩ := H.c11 (.tail _ (.tail _ (.tail _ (.tail _ (.tail _ (.tail _ (.tail _ (.tail _ (.tail _ (.head _))))))))))
  obtain ⟨b33_0, b33_1, b33_2, b33_3, b33_4⟩ := H.c5 (.tail _ (.tail _ (.tail _ (.tail _ (.tail _ (.tail _ (.tail _ (.tail _ (.tail _ (.tail _ (.head _)))))))))))
  go_wp2_with fail
  refine (eqByteSS_any _ _ R _ (H.slS 24 5 HV16.out (.head _)) (H.slS 24 5 HV3.out (.tail _ (.tail _ (.tail _ (.tail _ (.tail _ (.tail _ (.tail _ (.tail _ (.head _))))))))))).mono ?_
  rintro e _ ⟨rfl, d17, rfl⟩
  replace H := H.drewN d17
  clear b32_0 b32_1 b32_2 b32_3 b32_4 b32_5 b32_6 b32_7 b32_8 b32_9 b32_10 b33_0 b33_1 b33_2 b33_3 b33_4
  obtain ⟨b34_0, b34_1, b34_2, b34_3, b34_4, b34_5, b34_6, b34_7, b34_8, b34_9, b34_10⟩ := H.c11 (.tail _ (.tail _ (.tail _ (.tail _ (.tail _ (.tail _ (.tail _ (.tail _ (.tail _ (.head _))))))))))
  obtain ⟨b35_0, b35_1, b35_2, b35_3, b35_4⟩ := H.c5 (.tail _ (.tail _ (.tail _ (.tail _ (.tail _ (.tail _ (.tail _ (.tail _ (.tail _ (.tail _ (.head _)))))))))))
  go_wp2_with fail
  refine (heldByteSS_z _ 1 _ R _ (H.slS 24 5 HV12m.out (.tail _ (.tail _ (.tail _ (.tail _ (.tail _ (.tail _ (.tail _ (.head _))))))))) rfl (by omega) (by omega)).mono ?_
  rintro e _ ⟨rfl, d18, rfl⟩
  replace H := H.drewN d18
  clear b34_0 b34_1 b34_2 b34_3 b34_4 b34_5 b34_6 b34_7 b34_8 b34_9 b34_10 b35_0 b35_1 b35_2 b35_3 b35_4
  obtain ⟨b36_0, b36_1, b36_2, b36_3, b36_4, b36_5, b36_6, b36_7, b36_8, b36_9, b36_10⟩ := H.c11 (.tail _ (.tail _ (.tail _ (.tail _ (.tail _ (.tail _ (.tail _ (.tail _ (.tail _ (.head _))))))))))
  obtain ⟨b37_0, b37_1, b37_2, b37_3, b37_4⟩ := H.c5 (.tail _ (.tail _ (.tail _ (.tail _ (.tail _ (.tail _ (.tail _ (.tail _ (.tail _ (.tail _ (.head _)))))))))))
  go_wp2_with fail
  go_ret
  exact ⟨rfl, by have hfin := H.bel; simpa using hfin⟩
end Go.Proofs.YtdoaikanaodefaaGreatDoor
