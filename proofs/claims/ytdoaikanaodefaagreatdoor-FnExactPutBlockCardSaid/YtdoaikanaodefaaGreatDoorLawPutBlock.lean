/- The walk of the exact law of PutBlock: for every argument the law answers true and leaves all memory that was there as it was. -/
import Derived.Test.YtdoaikanaodefaaGreatDoorPutBlock
import Derived.Test.YtdoaikanaodefaaGreatDoorBlockM
import Derived.Deep.RegionHeld3
namespace Go.Proofs.YtdoaikanaodefaaGreatDoor
open Go.ChangeShapes Go.WideShapes Go.ChangeAt Go.RowKit

set_option maxRecDepth 100000 in
set_option maxHeartbeats 8000000 in
theorem PutBlock_walk (x0_0 x0_1 x0_2 x0_3 x0_4 : Int) (v1 : Value) (l1 : List UInt8) (x2_0 x2_1 x2_2 x2_5 x2_6 : Int) (v2_3 v2_4 v2_7 v2_8 v2_9 v2_10 : Value) (l2_3 : List UInt8) (l2_4 : List UInt8) (l2_7 : List UInt8) (l2_8 : List UInt8) (l2_9 : List (List UInt8)) (l2_10 : List (List UInt8)) (W : World) (h1 : Sl W W.heap.size v1 l1) (h2_3 : Sl W W.heap.size v2_3 l2_3) (h2_4 : Sl W W.heap.size v2_4 l2_4) (h2_7 : Sl W W.heap.size v2_7 l2_7) (h2_8 : Sl W W.heap.size v2_8 l2_8) (h2_9 : SlS W W.heap.size v2_9 l2_9) (h2_10 : SlS W W.heap.size v2_10 l2_10) (hgI : Glob W 0 initW) (hg : Glob W 1 kk) :
    Calls Tryz.prog 3 #[.agg #[.int .i64 x0_0, .int .i64 x0_1, .int .i64 x0_2, .int .i64 x0_3, .int .i64 x0_4], v1, .agg #[.int .i64 x2_0, .int .i64 x2_1, .int .i64 x2_2, v2_3, v2_4, .int .i64 x2_5, .int .i64 x2_6, v2_7, v2_8, v2_9, v2_10]] W (Yes W) := by
  have hs1 := h1
  obtain ⟨A1, c1, rfl, p1, q1, r1, z1⟩ := h1
  unfold maxLen at q1
  clear r1 z1
  have hs2_3 := h2_3
  obtain ⟨A2_3, c2_3, rfl, p2_3, q2_3, r2_3, z2_3⟩ := h2_3
  unfold maxLen at q2_3
  clear r2_3 z2_3
  have hs2_4 := h2_4
  obtain ⟨A2_4, c2_4, rfl, p2_4, q2_4, r2_4, z2_4⟩ := h2_4
  unfold maxLen at q2_4
  clear r2_4 z2_4
  have hs2_7 := h2_7
  obtain ⟨A2_7, c2_7, rfl, p2_7, q2_7, r2_7, z2_7⟩ := h2_7
  unfold maxLen at q2_7
  clear r2_7 z2_7
  have hs2_8 := h2_8
  obtain ⟨A2_8, c2_8, rfl, p2_8, q2_8, r2_8, z2_8⟩ := h2_8
  unfold maxLen at q2_8
  clear r2_8 z2_8
  have hs2_9 := h2_9
  obtain ⟨A2_9, c2_9, rfl, p2_9, q2_9, r2_9, z2_9⟩ := h2_9
  unfold maxLen at q2_9
  clear r2_9 z2_9
  have hs2_10 := h2_10
  obtain ⟨A2_10, c2_10, rfl, p2_10, q2_10, r2_10, z2_10⟩ := h2_10
  unfold maxLen at q2_10
  clear r2_10 z2_10
  by_cases hbig1 : 1048576 < l1.length
  · have hb : (1048576 : Int) < (l1.length : Int) := by omega
    go_enter Tryz.func3, Tryz.ntmps3
    go_wp2
    go_ret
    exact ⟨rfl, (((Below.refl _ _).alloc (by simp <;> omega) _).alloc (by simp <;> omega) _)⟩
  have hb1 : ¬ ((1048576 : Int) < (l1.length : Int)) := by omega
  by_cases hbig : (1048576 : Int) < (l2_3.length : Int) + (l2_4.length : Int) + (l2_7.length : Int) + (l2_8.length : Int) + (l2_9.length : Int) + (sumL l2_9 : Int) + (l2_10.length : Int) + (sumL l2_10 : Int)
  · have HZ0 : Hid (szGZ l2_3 l2_4 l2_7 l2_8 l2_9 l2_10 (1048576 : Int) = -1) := Lib.hid (by exact szGZ_big hbig)
    clear hbig
    have H : InvF W W [] := InvF.start W
    replace H := H.newG 23 #[.int .i64 x0_0, .int .i64 x0_1, .int .i64 x0_2, .int .i64 x0_3, .int .i64 x0_4] (W.heap.size)
    replace H := H.newG 31 #[.int .i64 x2_0, .int .i64 x2_1, .int .i64 x2_2, .slice A2_3 l2_3.length c2_3, .slice A2_4 l2_4.length c2_4, .int .i64 x2_5, .int .i64 x2_6, .slice A2_7 l2_7.length c2_7, .slice A2_8 l2_8.length c2_8, .slice A2_9 l2_9.length c2_9, .slice A2_10 l2_10.length c2_10] (W.heap.size + 1)
    replace H : InvF W _ [segX 31 (W.heap.size + 1) [.int .i64 x2_0, .int .i64 x2_1, .int .i64 x2_2, (.slice A2_3 l2_3.length c2_3), (.slice A2_4 l2_4.length c2_4), .int .i64 x2_5, .int .i64 x2_6, (.slice A2_7 l2_7.length c2_7), (.slice A2_8 l2_8.length c2_8), (.slice A2_9 l2_9.length c2_9), (.slice A2_10 l2_10.length c2_10)], segX 23 W.heap.size [.int .i64 x0_0, .int .i64 x0_1, .int .i64 x0_2, .int .i64 x0_3, .int .i64 x0_4]] := H
    go_enter Tryz.func3, Tryz.ntmps3
    obtain ⟨b1_0, b1_1, b1_2, b1_3, b1_4, b1_5, b1_6, b1_7, b1_8, b1_9, b1_10⟩ := H.c11 (.head _)
    obtain ⟨b2_0, b2_1, b2_2, b2_3, b2_4⟩ := H.c5 (.tail _ (.head _))
    go_wp2_with fail
    refine (szBlock_any x2_0 x2_1 x2_2 x2_5 x2_6 _ _ _ _ _ _ l2_3 l2_4 l2_7 l2_8 l2_9 l2_10 1048576 _ (hs2_3.up H.bel) (hs2_4.up H.bel) (hs2_7.up H.bel) (hs2_8.up H.bel) (hs2_9.up H.bel) (hs2_10.up H.bel) (by omega) (by omega)).mono ?_
    rw [HZ0.out]
    rintro e wz0 ⟨rfl, hb⟩
    replace H := H.up hb
    clear hb
    clear b1_0 b1_1 b1_2 b1_3 b1_4 b1_5 b1_6 b1_7 b1_8 b1_9 b1_10 b2_0 b2_1 b2_2 b2_3 b2_4
    obtain ⟨b3_0, b3_1, b3_2, b3_3, b3_4, b3_5, b3_6, b3_7, b3_8, b3_9, b3_10⟩ := H.c11 (.head _)
    obtain ⟨b4_0, b4_1, b4_2, b4_3, b4_4⟩ := H.c5 (.tail _ (.head _))
    go_wp2
    go_ret
    exact ⟨rfl, H.bel⟩
  obtain ⟨zz0, hz⟩ : ∃ z, z = (1048576 : Int) - ((l2_3.length : Int) + (l2_4.length : Int) + (l2_7.length : Int) + (l2_8.length : Int) + (l2_9.length : Int) + (sumL l2_9 : Int) + (l2_10.length : Int) + (sumL l2_10 : Int)) := ⟨_, rfl⟩
  have HZ0 : Hid (szGZ l2_3 l2_4 l2_7 l2_8 l2_9 l2_10 (1048576 : Int) = zz0) := Lib.hid (by rw [hz]; exact szGZ_ok hbig)
  have hzlo0 : 0 ≤ zz0 := by omega
  have hzhi0 : zz0 ≤ 1048576 := by omega
  have hzn0 : ¬ (zz0 < 0) := by omega
  have hL2_3 : l2_3.length ≤ 1048576 := by omega
  have hL2_4 : l2_4.length ≤ 1048576 := by omega
  have hL2_7 : l2_7.length ≤ 1048576 := by omega
  have hL2_8 : l2_8.length ≤ 1048576 := by omega
  have hL2_9 : l2_9.length ≤ 1048576 := by omega
  have hN2_9 : sumL l2_9 ≤ 1048576 := by omega
  have hL2_10 : l2_10.length ≤ 1048576 := by omega
  have hN2_10 : sumL l2_10 ≤ 1048576 := by omega
  have hT2 : l2_3.length + l2_4.length + l2_7.length + l2_8.length + l2_9.length + sumL l2_9 + l2_10.length + sumL l2_10 ≤ 1048576 := by omega
  clear hbig hz
  have hp : (putBlockL x0_0 x0_1 x0_2 x0_3 x0_4 l1 x2_0 x2_1 x2_2 x2_5 x2_6 l2_3 l2_4 l2_7 l2_8 l2_9 l2_10).length ≤ 4194304 := by have := putBlockL_len x0_0 x0_1 x0_2 x0_3 x0_4 l1 x2_0 x2_1 x2_2 x2_5 x2_6 l2_3 l2_4 l2_7 l2_8 l2_9 l2_10; omega
  obtain ⟨R, hR⟩ : ∃ R, R = putBlockL x0_0 x0_1 x0_2 x0_3 x0_4 l1 x2_0 x2_1 x2_2 x2_5 x2_6 l2_3 l2_4 l2_7 l2_8 l2_9 l2_10 := ⟨_, rfl⟩
  rw [← hR] at hp
  have HR := Lib.hid hR
  clear hR
  obtain ⟨b0, hB⟩ : ∃ b, b = blockB x0_0 x0_1 x0_2 x0_3 x0_4 x2_0 x2_1 x2_2 x2_5 x2_6 l2_3 l2_4 l2_7 l2_8 l2_9 l2_10 := ⟨_, rfl⟩
  have HB0 := Lib.hid hB
  clear hB
  have hbb0 : (b0 != b0) = false := by simp
  have H : InvF W W [] := InvF.start W
  replace H := H.newG 23 #[.int .i64 x0_0, .int .i64 x0_1, .int .i64 x0_2, .int .i64 x0_3, .int .i64 x0_4] (W.heap.size)
  replace H := H.newG 31 #[.int .i64 x2_0, .int .i64 x2_1, .int .i64 x2_2, .slice A2_3 l2_3.length c2_3, .slice A2_4 l2_4.length c2_4, .int .i64 x2_5, .int .i64 x2_6, .slice A2_7 l2_7.length c2_7, .slice A2_8 l2_8.length c2_8, .slice A2_9 l2_9.length c2_9, .slice A2_10 l2_10.length c2_10] (W.heap.size + 1)
  replace H : InvF W _ [segX 31 (W.heap.size + 1) [.int .i64 x2_0, .int .i64 x2_1, .int .i64 x2_2, (.slice A2_3 l2_3.length c2_3), (.slice A2_4 l2_4.length c2_4), .int .i64 x2_5, .int .i64 x2_6, (.slice A2_7 l2_7.length c2_7), (.slice A2_8 l2_8.length c2_8), (.slice A2_9 l2_9.length c2_9), (.slice A2_10 l2_10.length c2_10)], segX 23 W.heap.size [.int .i64 x0_0, .int .i64 x0_1, .int .i64 x0_2, .int .i64 x0_3, .int .i64 x0_4]] := H
  go_enter Tryz.func3, Tryz.ntmps3
  obtain ⟨b5_0, b5_1, b5_2, b5_3, b5_4, b5_5, b5_6, b5_7, b5_8, b5_9, b5_10⟩ := H.c11 (.head _)
  obtain ⟨b6_0, b6_1, b6_2, b6_3, b6_4⟩ := H.c5 (.tail _ (.head _))
  go_wp2_with fail
  refine (szBlock_any x2_0 x2_1 x2_2 x2_5 x2_6 _ _ _ _ _ _ l2_3 l2_4 l2_7 l2_8 l2_9 l2_10 1048576 _ (hs2_3.up H.bel) (hs2_4.up H.bel) (hs2_7.up H.bel) (hs2_8.up H.bel) (hs2_9.up H.bel) (hs2_10.up H.bel) (by omega) (by omega)).mono ?_
  rw [HZ0.out]
  rintro e wz0 ⟨rfl, hb⟩
  replace H := H.up hb
  clear hb
  clear b5_0 b5_1 b5_2 b5_3 b5_4 b5_5 b5_6 b5_7 b5_8 b5_9 b5_10 b6_0 b6_1 b6_2 b6_3 b6_4
  obtain ⟨b7_0, b7_1, b7_2, b7_3, b7_4, b7_5, b7_6, b7_7, b7_8, b7_9, b7_10⟩ := H.c11 (.head _)
  obtain ⟨b8_0, b8_1, b8_2, b8_3, b8_4⟩ := H.c5 (.tail _ (.head _))
  have HE0 := Lib.hid (H.drewN 1)
  have HK0 := Lib.hid (ten (HE0.out.c5 (.tail _ (.head _))) (HE0.out.c11 (.head _)))
  go_wp2_with fail
  go_region_held3 (fun w' => w'.cell? ⟨W.heap.size, 0, none⟩ = some (.int .i64 x0_0) ∧ w'.cell? ⟨W.heap.size, 1, none⟩ = some (.int .i64 x0_1) ∧ w'.cell? ⟨W.heap.size, 2, none⟩ = some (.int .i64 x0_2) ∧ w'.cell? ⟨W.heap.size, 3, none⟩ = some (.int .i64 x0_3) ∧ w'.cell? ⟨W.heap.size, 4, none⟩ = some (.int .i64 x0_4) ∧ w'.cell? ⟨W.heap.size + 1, 0, none⟩ = some (.int .i64 x2_0) ∧ w'.cell? ⟨W.heap.size + 1, 1, none⟩ = some (.int .i64 x2_1) ∧ w'.cell? ⟨W.heap.size + 1, 2, none⟩ = some (.int .i64 x2_2) ∧ w'.cell? ⟨W.heap.size + 1, 3, none⟩ = some (.slice A2_3 l2_3.length c2_3) ∧ w'.cell? ⟨W.heap.size + 1, 4, none⟩ = some (.slice A2_4 l2_4.length c2_4) ∧ w'.cell? ⟨W.heap.size + 1, 5, none⟩ = some (.int .i64 x2_5) ∧ w'.cell? ⟨W.heap.size + 1, 6, none⟩ = some (.int .i64 x2_6) ∧ w'.cell? ⟨W.heap.size + 1, 7, none⟩ = some (.slice A2_7 l2_7.length c2_7) ∧ w'.cell? ⟨W.heap.size + 1, 8, none⟩ = some (.slice A2_8 l2_8.length c2_8) ∧ w'.cell? ⟨W.heap.size + 1, 9, none⟩ = some (.slice A2_9 l2_9.length c2_9) ∧ w'.cell? ⟨W.heap.size + 1, 10, none⟩ = some (.slice A2_10 l2_10.length c2_10))
    (first
      | exact HK0.out
      | exact HK1.out
      | exact HK2.out
      | exact HK3.out
      | exact HK4.out)
    (first
      | (go_at_call_of 9 (Value.int IntKind.i64 x0_0); refine (toLimits_any x0_0 x0_1 x0_2 x0_3 x0_4   _  ).mono ?_; rintro e w1 ⟨rfl, hb⟩; have HX := HE0.out.up hb; clear hb; have HE1 := Lib.hid HX; clear HX; have HK1 := Lib.hid (ten (HE1.out.c5 (.tail _ (.head _))) (HE1.out.c11 (.head _))))
      | (go_at_call 10; refine (toByteS_any _ l1 _ (hs1.up HE1.out.bel) (by omega)).mono ?_; rintro e w2 ⟨u2, rfl, ho, hb⟩; have HX := HE1.out.moreB ho hb; clear ho hb; have HE2 := Lib.hid HX; clear HX; have HK2 := Lib.hid (ten (HE2.out.c5 (.tail _ (.tail _ (.head _)))) (HE2.out.c11 (.tail _ (.head _)))))
      | (go_at_call_of 11 (Value.int IntKind.i64 x2_0); refine (toBlock_any x2_0 x2_1 x2_2 x2_5 x2_6 _ _ _ _ _ _ l2_3 l2_4 l2_7 l2_8 l2_9 l2_10 _ (hs2_3.up HE2.out.bel) (hs2_4.up HE2.out.bel) (hs2_7.up HE2.out.bel) (hs2_8.up HE2.out.bel) (hs2_9.up HE2.out.bel) (hs2_10.up HE2.out.bel) hL2_3 hL2_4 hL2_7 hL2_8 hL2_9 hN2_9 hL2_10 hN2_10).mono ?_; rintro e w3 ⟨u3_3, u3_4, u3_7, u3_8, u3_9, u3_10, vs3_9, vs3_10, rfl, hv3_9, hv3_10, K⟩; have HV3_9 := Lib.hid hv3_9; have HV3_10 := Lib.hid hv3_10; obtain ⟨A3_3', c3_3', rfl⟩ := K.openB' (.head _); obtain ⟨A3_4', c3_4', rfl⟩ := K.openB' (.tail _ (.head _)); obtain ⟨A3_7', c3_7', rfl⟩ := K.openB' (.tail _ (.tail _ (.head _))); obtain ⟨A3_8', c3_8', rfl⟩ := K.openB' (.tail _ (.tail _ (.tail _ (.head _)))); obtain ⟨A3_9', c3_9', rfl⟩ := K.openS hv3_9 (.tail _ (.tail _ (.tail _ (.tail _ (.head _))))); clear hv3_9; obtain ⟨A3_10', c3_10', rfl⟩ := K.openS hv3_10 (.tail _ (.tail _ (.tail _ (.tail _ (.tail _ (.head _)))))); clear hv3_10; have HT := HE2.out.moreF K; clear K; have HX : InvF W w3 [segB 5 (.slice A3_3' l2_3.length c3_3') l2_3, segB 5 (.slice A3_4' l2_4.length c3_4') l2_4, segB 5 (.slice A3_7' l2_7.length c3_7') l2_7, segB 5 (.slice A3_8' l2_8.length c3_8') l2_8, segS 24 5 (.slice A3_9' l2_9.length c3_9') vs3_9 l2_9, segS 24 5 (.slice A3_10' l2_10.length c3_10') vs3_10 l2_10, segB 5 u2 l1, segX 31 (W.heap.size + 1) [.int .i64 x2_0, .int .i64 x2_1, .int .i64 x2_2, (.slice A2_3 l2_3.length c2_3), (.slice A2_4 l2_4.length c2_4), .int .i64 x2_5, .int .i64 x2_6, (.slice A2_7 l2_7.length c2_7), (.slice A2_8 l2_8.length c2_8), (.slice A2_9 l2_9.length c2_9), (.slice A2_10 l2_10.length c2_10)], segX 23 W.heap.size [.int .i64 x0_0, .int .i64 x0_1, .int .i64 x0_2, .int .i64 x0_3, .int .i64 x0_4]] := HT; clear HT; have HE3 := Lib.hid HX; clear HX; have HK3 := Lib.hid (ten (HE3.out.c5 (.tail _ (.tail _ (.tail _ (.tail _ (.tail _ (.tail _ (.tail _ (.tail _ (.head _)))))))))) (HE3.out.c11 (.tail _ (.tail _ (.tail _ (.tail _ (.tail _ (.tail _ (.tail _ (.head _)))))))))))
      | (go_at_call 8; refine (specPutBlock_any x0_0 x0_1 x0_2 x0_3 x0_4 x2_0 x2_1 x2_2 x2_5 x2_6 _ _ _ _ _ _ _ l1 l2_3 l2_4 l2_7 l2_8 l2_9 l2_10 _  (HE3.out.slB 5 (.tail _ (.tail _ (.tail _ (.tail _ (.tail _ (.tail _ (.head _)))))))) (HE3.out.slB 5 (.head _)) (HE3.out.slB 5 (.tail _ (.head _))) (HE3.out.slB 5 (.tail _ (.tail _ (.head _)))) (HE3.out.slB 5 (.tail _ (.tail _ (.tail _ (.head _))))) (HE3.out.slS 24 5 HV3_9.out (.tail _ (.tail _ (.tail _ (.tail _ (.head _)))))) (HE3.out.slS 24 5 HV3_10.out (.tail _ (.tail _ (.tail _ (.tail _ (.tail _ (.head _))))))) (by omega) (by omega) (by omega) (by omega) ).mono ?_; rw [← HR.out, ← HB0.out]; rintro e w4 ⟨u4, rfl, ho, hb⟩; have HX := HE3.out.moreB ho hb; clear ho hb; have HE4 := Lib.hid HX; clear HX; have HK4 := Lib.hid (ten (HE4.out.c5 (.tail _ (.tail _ (.tail _ (.tail _ (.tail _ (.tail _ (.tail _ (.tail _ (.tail _ (.head _))))))))))) (HE4.out.c11 (.tail _ (.tail _ (.tail _ (.tail _ (.tail _ (.tail _ (.tail _ (.tail _ (.head _)))))))))))))
  clear H b7_0 b7_1 b7_2 b7_3 b7_4 b7_5 b7_6 b7_7 b7_8 b7_9 b7_10 b8_0 b8_1 b8_2 b8_3 b8_4
  have H := HE4.out
  clear HE0 HK0 HE1 HK1 HE2 HK2 HE3 HK3 HE4 HK4
  replace H := H.sub (qs := [segB 5 u4 R, segX 31 (W.heap.size + 1) [.int .i64 x2_0, .int .i64 x2_1, .int .i64 x2_2, (.slice A2_3 l2_3.length c2_3), (.slice A2_4 l2_4.length c2_4), .int .i64 x2_5, .int .i64 x2_6, (.slice A2_7 l2_7.length c2_7), (.slice A2_8 l2_8.length c2_8), (.slice A2_9 l2_9.length c2_9), (.slice A2_10 l2_10.length c2_10)], segX 23 W.heap.size [.int .i64 x0_0, .int .i64 x0_1, .int .i64 x0_2, .int .i64 x0_3, .int .i64 x0_4]]) (.cons_cons _ (.cons _ (.cons _ (.cons _ (.cons _ (.cons _ (.cons _ (.cons _ (.cons_cons _ (.cons_cons _ .slnil))))))))))
  obtain ⟨b9_0, b9_1, b9_2, b9_3, b9_4, b9_5, b9_6, b9_7, b9_8, b9_9, b9_10⟩ := H.c11 (.tail _ (.head _))
  obtain ⟨b10_0, b10_1, b10_2, b10_3, b10_4⟩ := H.c5 (.tail _ (.tail _ (.head _)))
  go_wp2_with fail
  refine (toByteS_any _ l1 _ (hs1.up H.bel) (by omega)).mono ?_
  rintro e w5 ⟨u5, rfl, ho, hb⟩
  replace H := H.moreB ho hb
  clear ho hb
  clear b9_0 b9_1 b9_2 b9_3 b9_4 b9_5 b9_6 b9_7 b9_8 b9_9 b9_10 b10_0 b10_1 b10_2 b10_3 b10_4
  obtain ⟨b11_0, b11_1, b11_2, b11_3, b11_4, b11_5, b11_6, b11_7, b11_8, b11_9, b11_10⟩ := H.c11 (.tail _ (.tail _ (.head _)))
  obtain ⟨b12_0, b12_1, b12_2, b12_3, b12_4⟩ := H.c5 (.tail _ (.tail _ (.tail _ (.head _))))
  go_wp2_with fail
  refine (toBlock_any x2_0 x2_1 x2_2 x2_5 x2_6 _ _ _ _ _ _ l2_3 l2_4 l2_7 l2_8 l2_9 l2_10 _ (hs2_3.up H.bel) (hs2_4.up H.bel) (hs2_7.up H.bel) (hs2_8.up H.bel) (hs2_9.up H.bel) (hs2_10.up H.bel) hL2_3 hL2_4 hL2_7 hL2_8 hL2_9 hN2_9 hL2_10 hN2_10).mono ?_
  rintro e w6 ⟨u6_3, u6_4, u6_7, u6_8, u6_9, u6_10, vs6_9, vs6_10, rfl, hv6_9, hv6_10, K⟩
  have HV6_9 := Lib.hid hv6_9
  have HV6_10 := Lib.hid hv6_10
  obtain ⟨A6_3', c6_3', rfl⟩ := K.openB' (.head _)
  obtain ⟨A6_4', c6_4', rfl⟩ := K.openB' (.tail _ (.head _))
  obtain ⟨A6_7', c6_7', rfl⟩ := K.openB' (.tail _ (.tail _ (.head _)))
  obtain ⟨A6_8', c6_8', rfl⟩ := K.openB' (.tail _ (.tail _ (.tail _ (.head _))))
  obtain ⟨A6_9', c6_9', rfl⟩ := K.openS hv6_9 (.tail _ (.tail _ (.tail _ (.tail _ (.head _)))))
  clear hv6_9
  obtain ⟨A6_10', c6_10', rfl⟩ := K.openS hv6_10 (.tail _ (.tail _ (.tail _ (.tail _ (.tail _ (.head _))))))
  clear hv6_10
  have HT := H.moreF K
  clear K
  replace H : InvF W w6 [segB 5 (.slice A6_3' l2_3.length c6_3') l2_3, segB 5 (.slice A6_4' l2_4.length c6_4') l2_4, segB 5 (.slice A6_7' l2_7.length c6_7') l2_7, segB 5 (.slice A6_8' l2_8.length c6_8') l2_8, segS 24 5 (.slice A6_9' l2_9.length c6_9') vs6_9 l2_9, segS 24 5 (.slice A6_10' l2_10.length c6_10') vs6_10 l2_10, segB 5 u5 l1, segB 5 u4 R, segX 31 (W.heap.size + 1) [.int .i64 x2_0, .int .i64 x2_1, .int .i64 x2_2, (.slice A2_3 l2_3.length c2_3), (.slice A2_4 l2_4.length c2_4), .int .i64 x2_5, .int .i64 x2_6, (.slice A2_7 l2_7.length c2_7), (.slice A2_8 l2_8.length c2_8), (.slice A2_9 l2_9.length c2_9), (.slice A2_10 l2_10.length c2_10)], segX 23 W.heap.size [.int .i64 x0_0, .int .i64 x0_1, .int .i64 x0_2, .int .i64 x0_3, .int .i64 x0_4]] := HT
  clear HT
  replace H := H.newX 42 #[.int .i64 x2_0, .int .i64 x2_1, .int .i64 x2_2, (.slice A6_3' l2_3.length c6_3'), (.slice A6_4' l2_4.length c6_4'), .int .i64 x2_5, .int .i64 x2_6, (.slice A6_7' l2_7.length c6_7'), (.slice A6_8' l2_8.length c6_8'), (.slice A6_9' l2_9.length c6_9'), (.slice A6_10' l2_10.length c6_10')]
  replace H : InvF W _ [segX 42 w6.heap.size [.int .i64 x2_0, .int .i64 x2_1, .int .i64 x2_2, (.slice A6_3' l2_3.length c6_3'), (.slice A6_4' l2_4.length c6_4'), .int .i64 x2_5, .int .i64 x2_6, (.slice A6_7' l2_7.length c6_7'), (.slice A6_8' l2_8.length c6_8'), (.slice A6_9' l2_9.length c6_9'), (.slice A6_10' l2_10.length c6_10')], segB 5 (.slice A6_3' l2_3.length c6_3') l2_3, segB 5 (.slice A6_4' l2_4.length c6_4') l2_4, segB 5 (.slice A6_7' l2_7.length c6_7') l2_7, segB 5 (.slice A6_8' l2_8.length c6_8') l2_8, segS 24 5 (.slice A6_9' l2_9.length c6_9') vs6_9 l2_9, segS 24 5 (.slice A6_10' l2_10.length c6_10') vs6_10 l2_10, segB 5 u5 l1, segB 5 u4 R, segX 31 (W.heap.size + 1) [.int .i64 x2_0, .int .i64 x2_1, .int .i64 x2_2, (.slice A2_3 l2_3.length c2_3), (.slice A2_4 l2_4.length c2_4), .int .i64 x2_5, .int .i64 x2_6, (.slice A2_7 l2_7.length c2_7), (.slice A2_8 l2_8.length c2_8), (.slice A2_9 l2_9.length c2_9), (.slice A2_10 l2_10.length c2_10)], segX 23 W.heap.size [.int .i64 x0_0, .int .i64 x0_1, .int .i64 x0_2, .int .i64 x0_3, .int .i64 x0_4]] := H
  clear b11_0 b11_1 b11_2 b11_3 b11_4 b11_5 b11_6 b11_7 b11_8 b11_9 b11_10 b12_0 b12_1 b12_2 b12_3 b12_4
  obtain ⟨b13_0, b13_1, b13_2, b13_3, b13_4, b13_5, b13_6, b13_7, b13_8, b13_9, b13_10⟩ := H.c11 (.head _)
  obtain ⟨b14_0, b14_1, b14_2, b14_3, b14_4, b14_5, b14_6, b14_7, b14_8, b14_9, b14_10⟩ := H.c11 (.tail _ (.tail _ (.tail _ (.tail _ (.tail _ (.tail _ (.tail _ (.tail _ (.tail _ (.head _))))))))))
  obtain ⟨b15_0, b15_1, b15_2, b15_3, b15_4⟩ := H.c5 (.tail _ (.tail _ (.tail _ (.tail _ (.tail _ (.tail _ (.tail _ (.tail _ (.tail _ (.tail _ (.head _)))))))))))
  have HE0 := Lib.hid (H.drewN 1)
  have HK0 := Lib.hid (ten (HE0.out.c5 (.tail _ (.tail _ (.tail _ (.tail _ (.tail _ (.tail _ (.tail _ (.tail _ (.tail _ (.tail _ (.head _)))))))))))) (HE0.out.c11 (.head _)))
  go_wp2_with fail
  go_region_held3 (fun w' => w'.cell? ⟨W.heap.size, 0, none⟩ = some (.int .i64 x0_0) ∧ w'.cell? ⟨W.heap.size, 1, none⟩ = some (.int .i64 x0_1) ∧ w'.cell? ⟨W.heap.size, 2, none⟩ = some (.int .i64 x0_2) ∧ w'.cell? ⟨W.heap.size, 3, none⟩ = some (.int .i64 x0_3) ∧ w'.cell? ⟨W.heap.size, 4, none⟩ = some (.int .i64 x0_4) ∧ w'.cell? ⟨w6.heap.size, 0, none⟩ = some (.int .i64 x2_0) ∧ w'.cell? ⟨w6.heap.size, 1, none⟩ = some (.int .i64 x2_1) ∧ w'.cell? ⟨w6.heap.size, 2, none⟩ = some (.int .i64 x2_2) ∧ w'.cell? ⟨w6.heap.size, 3, none⟩ = some (.slice A6_3' l2_3.length c6_3') ∧ w'.cell? ⟨w6.heap.size, 4, none⟩ = some (.slice A6_4' l2_4.length c6_4') ∧ w'.cell? ⟨w6.heap.size, 5, none⟩ = some (.int .i64 x2_5) ∧ w'.cell? ⟨w6.heap.size, 6, none⟩ = some (.int .i64 x2_6) ∧ w'.cell? ⟨w6.heap.size, 7, none⟩ = some (.slice A6_7' l2_7.length c6_7') ∧ w'.cell? ⟨w6.heap.size, 8, none⟩ = some (.slice A6_8' l2_8.length c6_8') ∧ w'.cell? ⟨w6.heap.size, 9, none⟩ = some (.slice A6_9' l2_9.length c6_9') ∧ w'.cell? ⟨w6.heap.size, 10, none⟩ = some (.slice A6_10' l2_10.length c6_10'))
    (first
      | exact HK0.out
      | exact HK1.out
      | exact HK2.out)
    (first
      | (go_at_call_of 9 (Value.int IntKind.i64 x0_0); refine (toLimits_any x0_0 x0_1 x0_2 x0_3 x0_4   _  ).mono ?_; rintro e w7 ⟨rfl, hb⟩; have HX := HE0.out.up hb; clear hb; have HE1 := Lib.hid HX; clear HX; have HK1 := Lib.hid (ten (HE1.out.c5 (.tail _ (.tail _ (.tail _ (.tail _ (.tail _ (.tail _ (.tail _ (.tail _ (.tail _ (.tail _ (.head _)))))))))))) (HE1.out.c11 (.head _))))
      | (go_at_call 12; refine (implPutBlock_any x0_0 x0_1 x0_2 x0_3 x0_4 x2_0 x2_1 x2_2 x2_5 x2_6 _ _ _ _ _ _ _ l1 l2_3 l2_4 l2_7 l2_8 l2_9 l2_10 _  (HE1.out.slB 5 (.tail _ (.tail _ (.tail _ (.tail _ (.tail _ (.tail _ (.tail _ (.head _))))))))) (HE1.out.slB 5 (.tail _ (.head _))) (HE1.out.slB 5 (.tail _ (.tail _ (.head _)))) (HE1.out.slB 5 (.tail _ (.tail _ (.tail _ (.head _))))) (HE1.out.slB 5 (.tail _ (.tail _ (.tail _ (.tail _ (.head _)))))) (HE1.out.slS 24 5 HV6_9.out (.tail _ (.tail _ (.tail _ (.tail _ (.tail _ (.head _))))))) (HE1.out.slS 24 5 HV6_10.out (.tail _ (.tail _ (.tail _ (.tail _ (.tail _ (.tail _ (.head _)))))))) (by omega) (by omega) (by omega) (by omega) (hgI.up HE1.out.bel) (hg.up HE1.out.bel)).mono ?_; rw [← HR.out, ← HB0.out]; rintro e w8 ⟨u8, rfl, ho, hb⟩; have HX := HE1.out.moreB ho hb; clear ho hb; have HE2 := Lib.hid HX; clear HX; have HK2 := Lib.hid (ten (HE2.out.c5 (.tail _ (.tail _ (.tail _ (.tail _ (.tail _ (.tail _ (.tail _ (.tail _ (.tail _ (.tail _ (.tail _ (.head _))))))))))))) (HE2.out.c11 (.tail _ (.head _))))))
  clear H b13_0 b13_1 b13_2 b13_3 b13_4 b13_5 b13_6 b13_7 b13_8 b13_9 b13_10 b14_0 b14_1 b14_2 b14_3 b14_4 b14_5 b14_6 b14_7 b14_8 b14_9 b14_10 b15_0 b15_1 b15_2 b15_3 b15_4
  have H := HE2.out
  clear HE0 HK0 HE1 HK1 HE2 HK2
  obtain ⟨b16_0, b16_1, b16_2, b16_3, b16_4, b16_5, b16_6, b16_7, b16_8, b16_9, b16_10⟩ := H.c11 (.tail _ (.head _))
  obtain ⟨b17_0, b17_1, b17_2, b17_3, b17_4, b17_5, b17_6, b17_7, b17_8, b17_9, b17_10⟩ := H.c11 (.tail _ (.tail _ (.tail _ (.tail _ (.tail _ (.tail _ (.tail _ (.tail _ (.tail _ (.tail _ (.head _)))))))))))
  obtain ⟨b18_0, b18_1, b18_2, b18_3, b18_4⟩ := H.c5 (.tail _ (.tail _ (.tail _ (.tail _ (.tail _ (.tail _ (.tail _ (.tail _ (.tail _ (.tail _ (.tail _ (.head _))))))))))))
  go_wp2_with fail
  refine (eqByteS_any _ _ R _ (H.slB 5 (.head _)) (H.slB 5 (.tail _ (.tail _ (.tail _ (.tail _ (.tail _ (.tail _ (.tail _ (.tail _ (.tail _ (.head _)))))))))))).mono ?_
  rintro e _ ⟨rfl, d9, rfl⟩
  replace H := H.drewN d9
  clear b16_0 b16_1 b16_2 b16_3 b16_4 b16_5 b16_6 b16_7 b16_8 b16_9 b16_10 b17_0 b17_1 b17_2 b17_3 b17_4 b17_5 b17_6 b17_7 b17_8 b17_9 b17_10 b18_0 b18_1 b18_2 b18_3 b18_4
  obtain ⟨b19_0, b19_1, b19_2, b19_3, b19_4, b19_5, b19_6, b19_7, b19_8, b19_9, b19_10⟩ := H.c11 (.tail _ (.head _))
  obtain ⟨b20_0, b20_1, b20_2, b20_3, b20_4, b20_5, b20_6, b20_7, b20_8, b20_9, b20_10⟩ := H.c11 (.tail _ (.tail _ (.tail _ (.tail _ (.tail _ (.tail _ (.tail _ (.tail _ (.tail _ (.tail _ (.head _)))))))))))
  obtain ⟨b21_0, b21_1, b21_2, b21_3, b21_4⟩ := H.c5 (.tail _ (.tail _ (.tail _ (.tail _ (.tail _ (.tail _ (.tail _ (.tail _ (.tail _ (.tail _ (.tail _ (.head _))))))))))))
  go_wp2_with fail
  refine (toByteS_any _ l1 _ (hs1.up H.bel) (by omega)).mono ?_
  rintro e w10 ⟨u10, rfl, ho, hb⟩
  replace H := H.moreB ho hb
  clear ho hb
  clear b19_0 b19_1 b19_2 b19_3 b19_4 b19_5 b19_6 b19_7 b19_8 b19_9 b19_10 b20_0 b20_1 b20_2 b20_3 b20_4 b20_5 b20_6 b20_7 b20_8 b20_9 b20_10 b21_0 b21_1 b21_2 b21_3 b21_4
  obtain ⟨b22_0, b22_1, b22_2, b22_3, b22_4, b22_5, b22_6, b22_7, b22_8, b22_9, b22_10⟩ := H.c11 (.tail _ (.tail _ (.head _)))
  obtain ⟨b23_0, b23_1, b23_2, b23_3, b23_4, b23_5, b23_6, b23_7, b23_8, b23_9, b23_10⟩ := H.c11 (.tail _ (.tail _ (.tail _ (.tail _ (.tail _ (.tail _ (.tail _ (.tail _ (.tail _ (.tail _ (.tail _ (.head _))))))))))))
  obtain ⟨b24_0, b24_1, b24_2, b24_3, b24_4⟩ := H.c5 (.tail _ (.tail _ (.tail _ (.tail _ (.tail _ (.tail _ (.tail _ (.tail _ (.tail _ (.tail _ (.tail _ (.tail _ (.head _)))))))))))))
  go_wp2_with fail
  refine (eqByteS_any _ _ l1 _ (H.slB 5 (.tail _ (.tail _ (.tail _ (.tail _ (.tail _ (.tail _ (.tail _ (.tail _ (.tail _ (.head _))))))))))) (H.slB 5 (.head _))).mono ?_
  rintro e _ ⟨rfl, d11, rfl⟩
  replace H := H.drewN d11
  replace H := H.sub (qs := [segB 5 u8 R, segX 42 w6.heap.size [.int .i64 x2_0, .int .i64 x2_1, .int .i64 x2_2, (.slice A6_3' l2_3.length c6_3'), (.slice A6_4' l2_4.length c6_4'), .int .i64 x2_5, .int .i64 x2_6, (.slice A6_7' l2_7.length c6_7'), (.slice A6_8' l2_8.length c6_8'), (.slice A6_9' l2_9.length c6_9'), (.slice A6_10' l2_10.length c6_10')], segB 5 (.slice A6_3' l2_3.length c6_3') l2_3, segB 5 (.slice A6_4' l2_4.length c6_4') l2_4, segB 5 (.slice A6_7' l2_7.length c6_7') l2_7, segB 5 (.slice A6_8' l2_8.length c6_8') l2_8, segS 24 5 (.slice A6_9' l2_9.length c6_9') vs6_9 l2_9, segS 24 5 (.slice A6_10' l2_10.length c6_10') vs6_10 l2_10, segB 5 u5 l1, segB 5 u4 R, segX 31 (W.heap.size + 1) [.int .i64 x2_0, .int .i64 x2_1, .int .i64 x2_2, (.slice A2_3 l2_3.length c2_3), (.slice A2_4 l2_4.length c2_4), .int .i64 x2_5, .int .i64 x2_6, (.slice A2_7 l2_7.length c2_7), (.slice A2_8 l2_8.length c2_8), (.slice A2_9 l2_9.length c2_9), (.slice A2_10 l2_10.length c2_10)], segX 23 W.heap.size [.int .i64 x0_0, .int .i64 x0_1, .int .i64 x0_2, .int .i64 x0_3, .int .i64 x0_4]]) (.cons _ (.cons_cons _ (.cons_cons _ (.cons_cons _ (.cons_cons _ (.cons_cons _ (.cons_cons _ (.cons_cons _ (.cons_cons _ (.cons_cons _ (.cons_cons _ (.cons_cons _ (.cons_cons _ .slnil)))))))))))))
  clear b22_0 b22_1 b22_2 b22_3 b22_4 b22_5 b22_6 b22_7 b22_8 b22_9 b22_10 b23_0 b23_1 b23_2 b23_3 b23_4 b23_5 b23_6 b23_7 b23_8 b23_9 b23_10 b24_0 b24_1 b24_2 b24_3 b24_4
  obtain ⟨b25_0, b25_1, b25_2, b25_3, b25_4, b25_5, b25_6, b25_7, b25_8, b25_9, b25_10⟩ := H.c11 (.tail _ (.head _))
  obtain ⟨b26_0, b26_1, b26_2, b26_3, b26_4, b26_5, b26_6, b26_7, b26_8, b26_9, b26_10⟩ := H.c11 (.tail _ (.tail _ (.tail _ (.tail _ (.tail _ (.tail _ (.tail _ (.tail _ (.tail _ (.tail _ (.head _)))))))))))
  obtain ⟨b27_0, b27_1, b27_2, b27_3, b27_4⟩ := H.c5 (.tail _ (.tail _ (.tail _ (.tail _ (.tail _ (.tail _ (.tail _ (.tail _ (.tail _ (.tail _ (.tail _ (.head _))))))))))))
  have HE0 := Lib.hid (H.drewN 1)
  have HK0 := Lib.hid (ten11 (HE0.out.c11 (.tail _ (.head _))) (HE0.out.c11 (.tail _ (.tail _ (.tail _ (.tail _ (.tail _ (.tail _ (.tail _ (.tail _ (.tail _ (.tail _ (.head _)))))))))))))
  go_wp2_with fail
  go_region_held3 (fun w' => w'.cell? ⟨w6.heap.size, 0, none⟩ = some (.int .i64 x2_0) ∧ w'.cell? ⟨w6.heap.size, 1, none⟩ = some (.int .i64 x2_1) ∧ w'.cell? ⟨w6.heap.size, 2, none⟩ = some (.int .i64 x2_2) ∧ w'.cell? ⟨w6.heap.size, 3, none⟩ = some (.slice A6_3' l2_3.length c6_3') ∧ w'.cell? ⟨w6.heap.size, 4, none⟩ = some (.slice A6_4' l2_4.length c6_4') ∧ w'.cell? ⟨w6.heap.size, 5, none⟩ = some (.int .i64 x2_5) ∧ w'.cell? ⟨w6.heap.size, 6, none⟩ = some (.int .i64 x2_6) ∧ w'.cell? ⟨w6.heap.size, 7, none⟩ = some (.slice A6_7' l2_7.length c6_7') ∧ w'.cell? ⟨w6.heap.size, 8, none⟩ = some (.slice A6_8' l2_8.length c6_8') ∧ w'.cell? ⟨w6.heap.size, 9, none⟩ = some (.slice A6_9' l2_9.length c6_9') ∧ w'.cell? ⟨w6.heap.size, 10, none⟩ = some (.slice A6_10' l2_10.length c6_10') ∧ w'.cell? ⟨W.heap.size + 1, 0, none⟩ = some (.int .i64 x2_0) ∧ w'.cell? ⟨W.heap.size + 1, 1, none⟩ = some (.int .i64 x2_1) ∧ w'.cell? ⟨W.heap.size + 1, 2, none⟩ = some (.int .i64 x2_2) ∧ w'.cell? ⟨W.heap.size + 1, 3, none⟩ = some (.slice A2_3 l2_3.length c2_3) ∧ w'.cell? ⟨W.heap.size + 1, 4, none⟩ = some (.slice A2_4 l2_4.length c2_4) ∧ w'.cell? ⟨W.heap.size + 1, 5, none⟩ = some (.int .i64 x2_5) ∧ w'.cell? ⟨W.heap.size + 1, 6, none⟩ = some (.int .i64 x2_6) ∧ w'.cell? ⟨W.heap.size + 1, 7, none⟩ = some (.slice A2_7 l2_7.length c2_7) ∧ w'.cell? ⟨W.heap.size + 1, 8, none⟩ = some (.slice A2_8 l2_8.length c2_8) ∧ w'.cell? ⟨W.heap.size + 1, 9, none⟩ = some (.slice A2_9 l2_9.length c2_9) ∧ w'.cell? ⟨W.heap.size + 1, 10, none⟩ = some (.slice A2_10 l2_10.length c2_10))
    (first
      | exact HK0.out
      | exact HK1.out
      | exact HK2.out)
    (first
      | (go_at_call_of 11 (Value.int IntKind.i64 x2_0); refine (toBlock_any x2_0 x2_1 x2_2 x2_5 x2_6 _ _ _ _ _ _ l2_3 l2_4 l2_7 l2_8 l2_9 l2_10 _ (hs2_3.up HE0.out.bel) (hs2_4.up HE0.out.bel) (hs2_7.up HE0.out.bel) (hs2_8.up HE0.out.bel) (hs2_9.up HE0.out.bel) (hs2_10.up HE0.out.bel) hL2_3 hL2_4 hL2_7 hL2_8 hL2_9 hN2_9 hL2_10 hN2_10).mono ?_; rintro e w12 ⟨u12_3, u12_4, u12_7, u12_8, u12_9, u12_10, vs12_9, vs12_10, rfl, hv12_9, hv12_10, K⟩; have HV12_9 := Lib.hid hv12_9; have HV12_10 := Lib.hid hv12_10; obtain ⟨A12_3', c12_3', rfl⟩ := K.openB' (.head _); obtain ⟨A12_4', c12_4', rfl⟩ := K.openB' (.tail _ (.head _)); obtain ⟨A12_7', c12_7', rfl⟩ := K.openB' (.tail _ (.tail _ (.head _))); obtain ⟨A12_8', c12_8', rfl⟩ := K.openB' (.tail _ (.tail _ (.tail _ (.head _)))); obtain ⟨A12_9', c12_9', rfl⟩ := K.openS hv12_9 (.tail _ (.tail _ (.tail _ (.tail _ (.head _))))); clear hv12_9; obtain ⟨A12_10', c12_10', rfl⟩ := K.openS hv12_10 (.tail _ (.tail _ (.tail _ (.tail _ (.tail _ (.head _)))))); clear hv12_10; have HT := HE0.out.moreF K; clear K; have HX : InvF W w12 [segB 5 (.slice A12_3' l2_3.length c12_3') l2_3, segB 5 (.slice A12_4' l2_4.length c12_4') l2_4, segB 5 (.slice A12_7' l2_7.length c12_7') l2_7, segB 5 (.slice A12_8' l2_8.length c12_8') l2_8, segS 24 5 (.slice A12_9' l2_9.length c12_9') vs12_9 l2_9, segS 24 5 (.slice A12_10' l2_10.length c12_10') vs12_10 l2_10, segB 5 u8 R, segX 42 w6.heap.size [.int .i64 x2_0, .int .i64 x2_1, .int .i64 x2_2, (.slice A6_3' l2_3.length c6_3'), (.slice A6_4' l2_4.length c6_4'), .int .i64 x2_5, .int .i64 x2_6, (.slice A6_7' l2_7.length c6_7'), (.slice A6_8' l2_8.length c6_8'), (.slice A6_9' l2_9.length c6_9'), (.slice A6_10' l2_10.length c6_10')], segB 5 (.slice A6_3' l2_3.length c6_3') l2_3, segB 5 (.slice A6_4' l2_4.length c6_4') l2_4, segB 5 (.slice A6_7' l2_7.length c6_7') l2_7, segB 5 (.slice A6_8' l2_8.length c6_8') l2_8, segS 24 5 (.slice A6_9' l2_9.length c6_9') vs6_9 l2_9, segS 24 5 (.slice A6_10' l2_10.length c6_10') vs6_10 l2_10, segB 5 u5 l1, segB 5 u4 R, segX 31 (W.heap.size + 1) [.int .i64 x2_0, .int .i64 x2_1, .int .i64 x2_2, (.slice A2_3 l2_3.length c2_3), (.slice A2_4 l2_4.length c2_4), .int .i64 x2_5, .int .i64 x2_6, (.slice A2_7 l2_7.length c2_7), (.slice A2_8 l2_8.length c2_8), (.slice A2_9 l2_9.length c2_9), (.slice A2_10 l2_10.length c2_10)], segX 23 W.heap.size [.int .i64 x0_0, .int .i64 x0_1, .int .i64 x0_2, .int .i64 x0_3, .int .i64 x0_4]] := HT; clear HT; have HE1 := Lib.hid HX; clear HX; have HK1 := Lib.hid (ten11 (HE1.out.c11 (.tail _ (.tail _ (.tail _ (.tail _ (.tail _ (.tail _ (.tail _ (.head _))))))))) (HE1.out.c11 (.tail _ (.tail _ (.tail _ (.tail _ (.tail _ (.tail _ (.tail _ (.tail _ (.tail _ (.tail _ (.tail _ (.tail _ (.tail _ (.tail _ (.tail _ (.tail _ (.head _))))))))))))))))))))
      | (go_at_call 14; refine (eqBlock_any x2_0 x2_1 x2_2 x2_5 x2_6 _ _ _ _ _ _ _ _ _ _ _ _ l2_3 l2_4 l2_7 l2_8 l2_9 l2_10 _ (HE1.out.slB 5 (.tail _ (.tail _ (.tail _ (.tail _ (.tail _ (.tail _ (.tail _ (.tail _ (.head _)))))))))) (HE1.out.slB 5 (.tail _ (.tail _ (.tail _ (.tail _ (.tail _ (.tail _ (.tail _ (.tail _ (.tail _ (.head _))))))))))) (HE1.out.slB 5 (.tail _ (.tail _ (.tail _ (.tail _ (.tail _ (.tail _ (.tail _ (.tail _ (.tail _ (.tail _ (.head _)))))))))))) (HE1.out.slB 5 (.tail _ (.tail _ (.tail _ (.tail _ (.tail _ (.tail _ (.tail _ (.tail _ (.tail _ (.tail _ (.tail _ (.head _))))))))))))) (HE1.out.slS 24 5 HV6_9.out (.tail _ (.tail _ (.tail _ (.tail _ (.tail _ (.tail _ (.tail _ (.tail _ (.tail _ (.tail _ (.tail _ (.tail _ (.head _)))))))))))))) (HE1.out.slS 24 5 HV6_10.out (.tail _ (.tail _ (.tail _ (.tail _ (.tail _ (.tail _ (.tail _ (.tail _ (.tail _ (.tail _ (.tail _ (.tail _ (.tail _ (.head _))))))))))))))) (HE1.out.slB 5 (.head _)) (HE1.out.slB 5 (.tail _ (.head _))) (HE1.out.slB 5 (.tail _ (.tail _ (.head _)))) (HE1.out.slB 5 (.tail _ (.tail _ (.tail _ (.head _))))) (HE1.out.slS 24 5 HV12_9.out (.tail _ (.tail _ (.tail _ (.tail _ (.head _)))))) (HE1.out.slS 24 5 HV12_10.out (.tail _ (.tail _ (.tail _ (.tail _ (.tail _ (.head _)))))))).mono ?_; rintro e w13 ⟨rfl, hb⟩; have HX := HE1.out.up hb; clear hb; have HE2 := Lib.hid HX; clear HX; have HK2 := Lib.hid (ten11 (HE2.out.c11 (.tail _ (.tail _ (.tail _ (.tail _ (.tail _ (.tail _ (.tail _ (.head _))))))))) (HE2.out.c11 (.tail _ (.tail _ (.tail _ (.tail _ (.tail _ (.tail _ (.tail _ (.tail _ (.tail _ (.tail _ (.tail _ (.tail _ (.tail _ (.tail _ (.tail _ (.tail _ (.head _)))))))))))))))))))))
  clear H b25_0 b25_1 b25_2 b25_3 b25_4 b25_5 b25_6 b25_7 b25_8 b25_9 b25_10 b26_0 b26_1 b26_2 b26_3 b26_4 b26_5 b26_6 b26_7 b26_8 b26_9 b26_10 b27_0 b27_1 b27_2 b27_3 b27_4
  have H := HE2.out
  clear HE0 HK0 HE1 HK1 HE2 HK2
  replace H := H.sub (qs := [segB 5 u8 R, segX 42 w6.heap.size [.int .i64 x2_0, .int .i64 x2_1, .int .i64 x2_2, (.slice A6_3' l2_3.length c6_3'), (.slice A6_4' l2_4.length c6_4'), .int .i64 x2_5, .int .i64 x2_6, (.slice A6_7' l2_7.length c6_7'), (.slice A6_8' l2_8.length c6_8'), (.slice A6_9' l2_9.length c6_9'), (.slice A6_10' l2_10.length c6_10')], segB 5 (.slice A6_3' l2_3.length c6_3') l2_3, segB 5 (.slice A6_4' l2_4.length c6_4') l2_4, segB 5 (.slice A6_7' l2_7.length c6_7') l2_7, segB 5 (.slice A6_8' l2_8.length c6_8') l2_8, segS 24 5 (.slice A6_9' l2_9.length c6_9') vs6_9 l2_9, segS 24 5 (.slice A6_10' l2_10.length c6_10') vs6_10 l2_10, segB 5 u5 l1, segB 5 u4 R, segX 31 (W.heap.size + 1) [.int .i64 x2_0, .int .i64 x2_1, .int .i64 x2_2, (.slice A2_3 l2_3.length c2_3), (.slice A2_4 l2_4.length c2_4), .int .i64 x2_5, .int .i64 x2_6, (.slice A2_7 l2_7.length c2_7), (.slice A2_8 l2_8.length c2_8), (.slice A2_9 l2_9.length c2_9), (.slice A2_10 l2_10.length c2_10)], segX 23 W.heap.size [.int .i64 x0_0, .int .i64 x0_1, .int .i64 x0_2, .int .i64 x0_3, .int .i64 x0_4]]) (.cons _ (.cons _ (.cons _ (.cons _ (.cons _ (.cons _ (.cons_cons _ (.cons_cons _ (.cons_cons _ (.cons_cons _ (.cons_cons _ (.cons_cons _ (.cons_cons _ (.cons_cons _ (.cons_cons _ (.cons_cons _ (.cons_cons _ (.cons_cons _ .slnil))))))))))))))))))
  replace H : InvF W _ [segB 5 u5 l1, segB 5 u8 R, segX 42 w6.heap.size [.int .i64 x2_0, .int .i64 x2_1, .int .i64 x2_2, (.slice A6_3' l2_3.length c6_3'), (.slice A6_4' l2_4.length c6_4'), .int .i64 x2_5, .int .i64 x2_6, (.slice A6_7' l2_7.length c6_7'), (.slice A6_8' l2_8.length c6_8'), (.slice A6_9' l2_9.length c6_9'), (.slice A6_10' l2_10.length c6_10')], segB 5 (.slice A6_3' l2_3.length c6_3') l2_3, segB 5 (.slice A6_4' l2_4.length c6_4') l2_4, segB 5 (.slice A6_7' l2_7.length c6_7') l2_7, segB 5 (.slice A6_8' l2_8.length c6_8') l2_8, segS 24 5 (.slice A6_9' l2_9.length c6_9') vs6_9 l2_9, segS 24 5 (.slice A6_10' l2_10.length c6_10') vs6_10 l2_10, segB 5 u4 R, segX 31 (W.heap.size + 1) [.int .i64 x2_0, .int .i64 x2_1, .int .i64 x2_2, (.slice A2_3 l2_3.length c2_3), (.slice A2_4 l2_4.length c2_4), .int .i64 x2_5, .int .i64 x2_6, (.slice A2_7 l2_7.length c2_7), (.slice A2_8 l2_8.length c2_8), (.slice A2_9 l2_9.length c2_9), (.slice A2_10 l2_10.length c2_10)], segX 23 W.heap.size [.int .i64 x0_0, .int .i64 x0_1, .int .i64 x0_2, .int .i64 x0_3, .int .i64 x0_4]] := H.front 8 rfl
  obtain ⟨b28_0, b28_1, b28_2, b28_3, b28_4, b28_5, b28_6, b28_7, b28_8, b28_9, b28_10⟩ := H.c11 (.tail _ (.tail _ (.head _)))
  obtain ⟨b29_0, b29_1, b29_2, b29_3, b29_4, b29_5, b29_6, b29_7, b29_8, b29_9, b29_10⟩ := H.c11 (.tail _ (.tail _ (.tail _ (.tail _ (.tail _ (.tail _ (.tail _ (.tail _ (.tail _ (.tail _ (.head _)))))))))))
  obtain ⟨b30_0, b30_1, b30_2, b30_3, b30_4⟩ := H.c5 (.tail _ (.tail _ (.tail _ (.tail _ (.tail _ (.tail _ (.tail _ (.tail _ (.tail _ (.tail _ (.tail _ (.head _))))))))))))
  go_wp2_with fail
  refine (markByteS_z _ l1 (1) _ _ _ (H.ownB 5 (.head _)) rfl (by omega) (by omega)).mono ?_
  rintro e w14 ⟨rfl, ho, hg⟩
  replace H := H.wroteB ho hg
  clear ho hg
  replace H : InvF W _ [segS 24 5 (.slice A6_10' l2_10.length c6_10') vs6_10 l2_10, segB 5 u5 (marks (1) l1.length), segB 5 u8 R, segX 42 w6.heap.size [.int .i64 x2_0, .int .i64 x2_1, .int .i64 x2_2, (.slice A6_3' l2_3.length c6_3'), (.slice A6_4' l2_4.length c6_4'), .int .i64 x2_5, .int .i64 x2_6, (.slice A6_7' l2_7.length c6_7'), (.slice A6_8' l2_8.length c6_8'), (.slice A6_9' l2_9.length c6_9'), (.slice A6_10' l2_10.length c6_10')], segB 5 (.slice A6_3' l2_3.length c6_3') l2_3, segB 5 (.slice A6_4' l2_4.length c6_4') l2_4, segB 5 (.slice A6_7' l2_7.length c6_7') l2_7, segB 5 (.slice A6_8' l2_8.length c6_8') l2_8, segS 24 5 (.slice A6_9' l2_9.length c6_9') vs6_9 l2_9, segB 5 u4 R, segX 31 (W.heap.size + 1) [.int .i64 x2_0, .int .i64 x2_1, .int .i64 x2_2, (.slice A2_3 l2_3.length c2_3), (.slice A2_4 l2_4.length c2_4), .int .i64 x2_5, .int .i64 x2_6, (.slice A2_7 l2_7.length c2_7), (.slice A2_8 l2_8.length c2_8), (.slice A2_9 l2_9.length c2_9), (.slice A2_10 l2_10.length c2_10)], segX 23 W.heap.size [.int .i64 x0_0, .int .i64 x0_1, .int .i64 x0_2, .int .i64 x0_3, .int .i64 x0_4]] := H.front 8 rfl
  replace H : InvF W _ [segS 24 5 (.slice A6_9' l2_9.length c6_9') vs6_9 l2_9, segS 24 5 (.slice A6_10' l2_10.length c6_10') vs6_10 l2_10, segB 5 u5 (marks (1) l1.length), segB 5 u8 R, segX 42 w6.heap.size [.int .i64 x2_0, .int .i64 x2_1, .int .i64 x2_2, (.slice A6_3' l2_3.length c6_3'), (.slice A6_4' l2_4.length c6_4'), .int .i64 x2_5, .int .i64 x2_6, (.slice A6_7' l2_7.length c6_7'), (.slice A6_8' l2_8.length c6_8'), (.slice A6_9' l2_9.length c6_9'), (.slice A6_10' l2_10.length c6_10')], segB 5 (.slice A6_3' l2_3.length c6_3') l2_3, segB 5 (.slice A6_4' l2_4.length c6_4') l2_4, segB 5 (.slice A6_7' l2_7.length c6_7') l2_7, segB 5 (.slice A6_8' l2_8.length c6_8') l2_8, segB 5 u4 R, segX 31 (W.heap.size + 1) [.int .i64 x2_0, .int .i64 x2_1, .int .i64 x2_2, (.slice A2_3 l2_3.length c2_3), (.slice A2_4 l2_4.length c2_4), .int .i64 x2_5, .int .i64 x2_6, (.slice A2_7 l2_7.length c2_7), (.slice A2_8 l2_8.length c2_8), (.slice A2_9 l2_9.length c2_9), (.slice A2_10 l2_10.length c2_10)], segX 23 W.heap.size [.int .i64 x0_0, .int .i64 x0_1, .int .i64 x0_2, .int .i64 x0_3, .int .i64 x0_4]] := H.front 8 rfl
  replace H : InvF W _ [segB 5 (.slice A6_8' l2_8.length c6_8') l2_8, segS 24 5 (.slice A6_9' l2_9.length c6_9') vs6_9 l2_9, segS 24 5 (.slice A6_10' l2_10.length c6_10') vs6_10 l2_10, segB 5 u5 (marks (1) l1.length), segB 5 u8 R, segX 42 w6.heap.size [.int .i64 x2_0, .int .i64 x2_1, .int .i64 x2_2, (.slice A6_3' l2_3.length c6_3'), (.slice A6_4' l2_4.length c6_4'), .int .i64 x2_5, .int .i64 x2_6, (.slice A6_7' l2_7.length c6_7'), (.slice A6_8' l2_8.length c6_8'), (.slice A6_9' l2_9.length c6_9'), (.slice A6_10' l2_10.length c6_10')], segB 5 (.slice A6_3' l2_3.length c6_3') l2_3, segB 5 (.slice A6_4' l2_4.length c6_4') l2_4, segB 5 (.slice A6_7' l2_7.length c6_7') l2_7, segB 5 u4 R, segX 31 (W.heap.size + 1) [.int .i64 x2_0, .int .i64 x2_1, .int .i64 x2_2, (.slice A2_3 l2_3.length c2_3), (.slice A2_4 l2_4.length c2_4), .int .i64 x2_5, .int .i64 x2_6, (.slice A2_7 l2_7.length c2_7), (.slice A2_8 l2_8.length c2_8), (.slice A2_9 l2_9.length c2_9), (.slice A2_10 l2_10.length c2_10)], segX 23 W.heap.size [.int .i64 x0_0, .int .i64 x0_1, .int .i64 x0_2, .int .i64 x0_3, .int .i64 x0_4]] := H.front 8 rfl
  replace H : InvF W _ [segB 5 (.slice A6_7' l2_7.length c6_7') l2_7, segB 5 (.slice A6_8' l2_8.length c6_8') l2_8, segS 24 5 (.slice A6_9' l2_9.length c6_9') vs6_9 l2_9, segS 24 5 (.slice A6_10' l2_10.length c6_10') vs6_10 l2_10, segB 5 u5 (marks (1) l1.length), segB 5 u8 R, segX 42 w6.heap.size [.int .i64 x2_0, .int .i64 x2_1, .int .i64 x2_2, (.slice A6_3' l2_3.length c6_3'), (.slice A6_4' l2_4.length c6_4'), .int .i64 x2_5, .int .i64 x2_6, (.slice A6_7' l2_7.length c6_7'), (.slice A6_8' l2_8.length c6_8'), (.slice A6_9' l2_9.length c6_9'), (.slice A6_10' l2_10.length c6_10')], segB 5 (.slice A6_3' l2_3.length c6_3') l2_3, segB 5 (.slice A6_4' l2_4.length c6_4') l2_4, segB 5 u4 R, segX 31 (W.heap.size + 1) [.int .i64 x2_0, .int .i64 x2_1, .int .i64 x2_2, (.slice A2_3 l2_3.length c2_3), (.slice A2_4 l2_4.length c2_4), .int .i64 x2_5, .int .i64 x2_6, (.slice A2_7 l2_7.length c2_7), (.slice A2_8 l2_8.length c2_8), (.slice A2_9 l2_9.length c2_9), (.slice A2_10 l2_10.length c2_10)], segX 23 W.heap.size [.int .i64 x0_0, .int .i64 x0_1, .int .i64 x0_2, .int .i64 x0_3, .int .i64 x0_4]] := H.front 8 rfl
  replace H : InvF W _ [segB 5 (.slice A6_4' l2_4.length c6_4') l2_4, segB 5 (.slice A6_7' l2_7.length c6_7') l2_7, segB 5 (.slice A6_8' l2_8.length c6_8') l2_8, segS 24 5 (.slice A6_9' l2_9.length c6_9') vs6_9 l2_9, segS 24 5 (.slice A6_10' l2_10.length c6_10') vs6_10 l2_10, segB 5 u5 (marks (1) l1.length), segB 5 u8 R, segX 42 w6.heap.size [.int .i64 x2_0, .int .i64 x2_1, .int .i64 x2_2, (.slice A6_3' l2_3.length c6_3'), (.slice A6_4' l2_4.length c6_4'), .int .i64 x2_5, .int .i64 x2_6, (.slice A6_7' l2_7.length c6_7'), (.slice A6_8' l2_8.length c6_8'), (.slice A6_9' l2_9.length c6_9'), (.slice A6_10' l2_10.length c6_10')], segB 5 (.slice A6_3' l2_3.length c6_3') l2_3, segB 5 u4 R, segX 31 (W.heap.size + 1) [.int .i64 x2_0, .int .i64 x2_1, .int .i64 x2_2, (.slice A2_3 l2_3.length c2_3), (.slice A2_4 l2_4.length c2_4), .int .i64 x2_5, .int .i64 x2_6, (.slice A2_7 l2_7.length c2_7), (.slice A2_8 l2_8.length c2_8), (.slice A2_9 l2_9.length c2_9), (.slice A2_10 l2_10.length c2_10)], segX 23 W.heap.size [.int .i64 x0_0, .int .i64 x0_1, .int .i64 x0_2, .int .i64 x0_3, .int .i64 x0_4]] := H.front 8 rfl
  replace H : InvF W _ [segB 5 (.slice A6_3' l2_3.length c6_3') l2_3, segB 5 (.slice A6_4' l2_4.length c6_4') l2_4, segB 5 (.slice A6_7' l2_7.length c6_7') l2_7, segB 5 (.slice A6_8' l2_8.length c6_8') l2_8, segS 24 5 (.slice A6_9' l2_9.length c6_9') vs6_9 l2_9, segS 24 5 (.slice A6_10' l2_10.length c6_10') vs6_10 l2_10, segB 5 u5 (marks (1) l1.length), segB 5 u8 R, segX 42 w6.heap.size [.int .i64 x2_0, .int .i64 x2_1, .int .i64 x2_2, (.slice A6_3' l2_3.length c6_3'), (.slice A6_4' l2_4.length c6_4'), .int .i64 x2_5, .int .i64 x2_6, (.slice A6_7' l2_7.length c6_7'), (.slice A6_8' l2_8.length c6_8'), (.slice A6_9' l2_9.length c6_9'), (.slice A6_10' l2_10.length c6_10')], segB 5 u4 R, segX 31 (W.heap.size + 1) [.int .i64 x2_0, .int .i64 x2_1, .int .i64 x2_2, (.slice A2_3 l2_3.length c2_3), (.slice A2_4 l2_4.length c2_4), .int .i64 x2_5, .int .i64 x2_6, (.slice A2_7 l2_7.length c2_7), (.slice A2_8 l2_8.length c2_8), (.slice A2_9 l2_9.length c2_9), (.slice A2_10 l2_10.length c2_10)], segX 23 W.heap.size [.int .i64 x0_0, .int .i64 x0_1, .int .i64 x0_2, .int .i64 x0_3, .int .i64 x0_4]] := H.front 8 rfl
  clear b28_0 b28_1 b28_2 b28_3 b28_4 b28_5 b28_6 b28_7 b28_8 b28_9 b28_10 b29_0 b29_1 b29_2 b29_3 b29_4 b29_5 b29_6 b29_7 b29_8 b29_9 b29_10 b30_0 b30_1 b30_2 b30_3 b30_4
  obtain ⟨b31_0, b31_1, b31_2, b31_3, b31_4, b31_5, b31_6, b31_7, b31_8, b31_9, b31_10⟩ := H.c11 (.tail _ (.tail _ (.tail _ (.tail _ (.tail _ (.tail _ (.tail _ (.tail _ (.head _)))))))))
  obtain ⟨b32_0, b32_1, b32_2, b32_3, b32_4, b32_5, b32_6, b32_7, b32_8, b32_9, b32_10⟩ := H.c11 (.tail _ (.tail _ (.tail _ (.tail _ (.tail _ (.tail _ (.tail _ (.tail _ (.tail _ (.tail _ (.head _)))))))))))
  obtain ⟨b33_0, b33_1, b33_2, b33_3, b33_4⟩ := H.c5 (.tail _ (.tail _ (.tail _ (.tail _ (.tail _ (.tail _ (.tail _ (.tail _ (.tail _ (.tail _ (.tail _ (.head _))))))))))))
  go_wp2_with fail
  refine (markBlock_z x2_0 x2_1 x2_2 x2_5 x2_6 W _ _ _ _ _ _ _ _ _ l2_3 l2_4 l2_7 l2_8 l2_9 l2_10 _ (1 + l1.length) _ HV6_9.out HV6_10.out H (by simp) (by omega) (by omega) (by omega) (by omega) (by omega) (by omega) (by omega)).mono ?_
  rintro e w15 ⟨rfl, K⟩
  replace H := K
  clear K
  have HV6_9m15 : Hid (vs6_9.length = (marksS (1 + l1.length + l2_3.length + l2_4.length + l2_7.length + l2_8.length) l2_9).length) := Lib.hid (by rw [marksS_length]; exact HV6_9.out)
  have HV6_10m15 : Hid (vs6_10.length = (marksS (1 + l1.length + l2_3.length + l2_4.length + l2_7.length + l2_8.length + sumL l2_9) l2_10).length) := Lib.hid (by rw [marksS_length]; exact HV6_10.out)
  replace H : InvF W w15 [segB 5 (.slice A6_3' l2_3.length c6_3') (marks (1 + l1.length) l2_3.length), segB 5 (.slice A6_4' l2_4.length c6_4') (marks (1 + l1.length + l2_3.length) l2_4.length), segB 5 (.slice A6_7' l2_7.length c6_7') (marks (1 + l1.length + l2_3.length + l2_4.length) l2_7.length), segB 5 (.slice A6_8' l2_8.length c6_8') (marks (1 + l1.length + l2_3.length + l2_4.length + l2_7.length) l2_8.length), segS 24 5 (.slice A6_9' l2_9.length c6_9') vs6_9 (marksS (1 + l1.length + l2_3.length + l2_4.length + l2_7.length + l2_8.length) l2_9), segS 24 5 (.slice A6_10' l2_10.length c6_10') vs6_10 (marksS (1 + l1.length + l2_3.length + l2_4.length + l2_7.length + l2_8.length + sumL l2_9) l2_10), segB 5 u5 (marks (1) l1.length), segB 5 u8 R, segX 42 w6.heap.size [.int .i64 x2_0, .int .i64 x2_1, .int .i64 x2_2, (.slice A6_3' l2_3.length c6_3'), (.slice A6_4' l2_4.length c6_4'), .int .i64 x2_5, .int .i64 x2_6, (.slice A6_7' l2_7.length c6_7'), (.slice A6_8' l2_8.length c6_8'), (.slice A6_9' l2_9.length c6_9'), (.slice A6_10' l2_10.length c6_10')], segB 5 u4 R, segX 31 (W.heap.size + 1) [.int .i64 x2_0, .int .i64 x2_1, .int .i64 x2_2, (.slice A2_3 l2_3.length c2_3), (.slice A2_4 l2_4.length c2_4), .int .i64 x2_5, .int .i64 x2_6, (.slice A2_7 l2_7.length c2_7), (.slice A2_8 l2_8.length c2_8), (.slice A2_9 l2_9.length c2_9), (.slice A2_10 l2_10.length c2_10)], segX 23 W.heap.size [.int .i64 x0_0, .int .i64 x0_1, .int .i64 x0_2, .int .i64 x0_3, .int .i64 x0_4]] := H
  have hltk : ¬ ((1 : Int) + (l1.length : Int) + (l2_3.length : Int) + (l2_4.length : Int) + (l2_7.length : Int) + (l2_8.length : Int) + (sumL l2_9 : Int) + (sumL l2_10 : Int) < 0) := by omega
  clear b31_0 b31_1 b31_2 b31_3 b31_4 b31_5 b31_6 b31_7 b31_8 b31_9 b31_10 b32_0 b32_1 b32_2 b32_3 b32_4 b32_5 b32_6 b32_7 b32_8 b32_9 b32_10 b33_0 b33_1 b33_2 b33_3 b33_4
  obtain ⟨b34_0, b34_1, b34_2, b34_3, b34_4, b34_5, b34_6, b34_7, b34_8, b34_9, b34_10⟩ := H.c11 (.tail _ (.tail _ (.tail _ (.tail _ (.tail _ (.tail _ (.tail _ (.tail _ (.head _)))))))))
  obtain ⟨b35_0, b35_1, b35_2, b35_3, b35_4, b35_5, b35_6, b35_7, b35_8, b35_9, b35_10⟩ := H.c11 (.tail _ (.tail _ (.tail _ (.tail _ (.tail _ (.tail _ (.tail _ (.tail _ (.tail _ (.tail _ (.head _)))))))))))
  obtain ⟨b36_0, b36_1, b36_2, b36_3, b36_4⟩ := H.c5 (.tail _ (.tail _ (.tail _ (.tail _ (.tail _ (.tail _ (.tail _ (.tail _ (.tail _ (.tail _ (.tail _ (.head _))))))))))))
  go_wp2_with fail
  refine (eqByteS_any _ _ R _ (H.slB 5 (.tail _ (.tail _ (.tail _ (.tail _ (.tail _ (.tail _ (.tail _ (.head _))))))))) (H.slB 5 (.tail _ (.tail _ (.tail _ (.tail _ (.tail _ (.tail _ (.tail _ (.tail _ (.tail _ (.head _)))))))))))).mono ?_
  rintro e _ ⟨rfl, d16, rfl⟩
  replace H := H.drewN d16
  replace H := H.sub (qs := [segB 5 u8 R, segB 5 u4 R, segX 31 (W.heap.size + 1) [.int .i64 x2_0, .int .i64 x2_1, .int .i64 x2_2, (.slice A2_3 l2_3.length c2_3), (.slice A2_4 l2_4.length c2_4), .int .i64 x2_5, .int .i64 x2_6, (.slice A2_7 l2_7.length c2_7), (.slice A2_8 l2_8.length c2_8), (.slice A2_9 l2_9.length c2_9), (.slice A2_10 l2_10.length c2_10)], segX 23 W.heap.size [.int .i64 x0_0, .int .i64 x0_1, .int .i64 x0_2, .int .i64 x0_3, .int .i64 x0_4]]) (.cons _ (.cons _ (.cons _ (.cons _ (.cons _ (.cons _ (.cons _ (.cons_cons _ (.cons _ (.cons_cons _ (.cons_cons _ (.cons_cons _ .slnil))))))))))))
  clear b34_0 b34_1 b34_2 b34_3 b34_4 b34_5 b34_6 b34_7 b34_8 b34_9 b34_10 b35_0 b35_1 b35_2 b35_3 b35_4 b35_5 b35_6 b35_7 b35_8 b35_9 b35_10 b36_0 b36_1 b36_2 b36_3 b36_4
  obtain ⟨b37_0, b37_1, b37_2, b37_3, b37_4, b37_5, b37_6, b37_7, b37_8, b37_9, b37_10⟩ := H.c11 (.tail _ (.tail _ (.head _)))
  obtain ⟨b38_0, b38_1, b38_2, b38_3, b38_4⟩ := H.c5 (.tail _ (.tail _ (.tail _ (.head _))))
  go_wp2_with fail
  refine (markByteS_z _ R (1) _ _ _ (H.ownB 5 (.head _)) rfl (by omega) (by omega)).mono ?_
  rintro e w17 ⟨rfl, ho, hg⟩
  replace H := H.wroteB ho hg
  clear ho hg
  clear b37_0 b37_1 b37_2 b37_3 b37_4 b37_5 b37_6 b37_7 b37_8 b37_9 b37_10 b38_0 b38_1 b38_2 b38_3 b38_4
  obtain ⟨b39_0, b39_1, b39_2, b39_3, b39_4, b39_5, b39_6, b39_7, b39_8, b39_9, b39_10⟩ := H.c11 (.tail _ (.tail _ (.head _)))
  obtain ⟨b40_0, b40_1, b40_2, b40_3, b40_4⟩ := H.c5 (.tail _ (.tail _ (.tail _ (.head _))))
  go_wp2_with fail
  refine (heldByteS_z _ 1 R.length _ _ (H.slB 5 (.head _)) rfl (by omega) (by omega)).mono ?_
  rintro e _ ⟨rfl, d18, rfl⟩
  replace H := H.drewN d18
  have hltL : ¬ ((1 : Int) + (R.length : Int) < 0) := by omega
  have hneL : ((1 : Int) + (R.length : Int) != 1 + (R.length : Int)) = false := by simp
  clear b39_0 b39_1 b39_2 b39_3 b39_4 b39_5 b39_6 b39_7 b39_8 b39_9 b39_10 b40_0 b40_1 b40_2 b40_3 b40_4
  obtain ⟨b41_0, b41_1, b41_2, b41_3, b41_4, b41_5, b41_6, b41_7, b41_8, b41_9, b41_10⟩ := H.c11 (.tail _ (.tail _ (.head _)))
  obtain ⟨b42_0, b42_1, b42_2, b42_3, b42_4⟩ := H.c5 (.tail _ (.tail _ (.tail _ (.head _))))
  have HE0 := Lib.hid (H.drewN 1)
  have HK0 := Lib.hid (ten (HE0.out.c5 (.tail _ (.tail _ (.tail _ (.head _))))) (HE0.out.c11 (.tail _ (.tail _ (.head _)))))
  go_wp2_with fail
  go_region_held3 (fun w' => w'.cell? ⟨W.heap.size, 0, none⟩ = some (.int .i64 x0_0) ∧ w'.cell? ⟨W.heap.size, 1, none⟩ = some (.int .i64 x0_1) ∧ w'.cell? ⟨W.heap.size, 2, none⟩ = some (.int .i64 x0_2) ∧ w'.cell? ⟨W.heap.size, 3, none⟩ = some (.int .i64 x0_3) ∧ w'.cell? ⟨W.heap.size, 4, none⟩ = some (.int .i64 x0_4) ∧ w'.cell? ⟨W.heap.size + 1, 0, none⟩ = some (.int .i64 x2_0) ∧ w'.cell? ⟨W.heap.size + 1, 1, none⟩ = some (.int .i64 x2_1) ∧ w'.cell? ⟨W.heap.size + 1, 2, none⟩ = some (.int .i64 x2_2) ∧ w'.cell? ⟨W.heap.size + 1, 3, none⟩ = some (.slice A2_3 l2_3.length c2_3) ∧ w'.cell? ⟨W.heap.size + 1, 4, none⟩ = some (.slice A2_4 l2_4.length c2_4) ∧ w'.cell? ⟨W.heap.size + 1, 5, none⟩ = some (.int .i64 x2_5) ∧ w'.cell? ⟨W.heap.size + 1, 6, none⟩ = some (.int .i64 x2_6) ∧ w'.cell? ⟨W.heap.size + 1, 7, none⟩ = some (.slice A2_7 l2_7.length c2_7) ∧ w'.cell? ⟨W.heap.size + 1, 8, none⟩ = some (.slice A2_8 l2_8.length c2_8) ∧ w'.cell? ⟨W.heap.size + 1, 9, none⟩ = some (.slice A2_9 l2_9.length c2_9) ∧ w'.cell? ⟨W.heap.size + 1, 10, none⟩ = some (.slice A2_10 l2_10.length c2_10))
    (first
      | exact HK0.out
      | exact HK1.out
      | exact HK2.out
      | exact HK3.out
      | exact HK4.out)
    (first
      | (go_at_call_of 9 (Value.int IntKind.i64 x0_0); refine (toLimits_any x0_0 x0_1 x0_2 x0_3 x0_4   _  ).mono ?_; rintro e w19 ⟨rfl, hb⟩; have HX := HE0.out.up hb; clear hb; have HE1 := Lib.hid HX; clear HX; have HK1 := Lib.hid (ten (HE1.out.c5 (.tail _ (.tail _ (.tail _ (.head _))))) (HE1.out.c11 (.tail _ (.tail _ (.head _))))))
      | (go_at_call 10; refine (toByteS_any _ l1 _ (hs1.up HE1.out.bel) (by omega)).mono ?_; rintro e w20 ⟨u20, rfl, ho, hb⟩; have HX := HE1.out.moreB ho hb; clear ho hb; have HE2 := Lib.hid HX; clear HX; have HK2 := Lib.hid (ten (HE2.out.c5 (.tail _ (.tail _ (.tail _ (.tail _ (.head _)))))) (HE2.out.c11 (.tail _ (.tail _ (.tail _ (.head _)))))))
      | (go_at_call_of 11 (Value.int IntKind.i64 x2_0); refine (toBlock_any x2_0 x2_1 x2_2 x2_5 x2_6 _ _ _ _ _ _ l2_3 l2_4 l2_7 l2_8 l2_9 l2_10 _ (hs2_3.up HE2.out.bel) (hs2_4.up HE2.out.bel) (hs2_7.up HE2.out.bel) (hs2_8.up HE2.out.bel) (hs2_9.up HE2.out.bel) (hs2_10.up HE2.out.bel) hL2_3 hL2_4 hL2_7 hL2_8 hL2_9 hN2_9 hL2_10 hN2_10).mono ?_; rintro e w21 ⟨u21_3, u21_4, u21_7, u21_8, u21_9, u21_10, vs21_9, vs21_10, rfl, hv21_9, hv21_10, K⟩; have HV21_9 := Lib.hid hv21_9; have HV21_10 := Lib.hid hv21_10; obtain ⟨A21_3', c21_3', rfl⟩ := K.openB' (.head _); obtain ⟨A21_4', c21_4', rfl⟩ := K.openB' (.tail _ (.head _)); obtain ⟨A21_7', c21_7', rfl⟩ := K.openB' (.tail _ (.tail _ (.head _))); obtain ⟨A21_8', c21_8', rfl⟩ := K.openB' (.tail _ (.tail _ (.tail _ (.head _)))); obtain ⟨A21_9', c21_9', rfl⟩ := K.openS hv21_9 (.tail _ (.tail _ (.tail _ (.tail _ (.head _))))); clear hv21_9; obtain ⟨A21_10', c21_10', rfl⟩ := K.openS hv21_10 (.tail _ (.tail _ (.tail _ (.tail _ (.tail _ (.head _)))))); clear hv21_10; have HT := HE2.out.moreF K; clear K; have HX : InvF W w21 [segB 5 (.slice A21_3' l2_3.length c21_3') l2_3, segB 5 (.slice A21_4' l2_4.length c21_4') l2_4, segB 5 (.slice A21_7' l2_7.length c21_7') l2_7, segB 5 (.slice A21_8' l2_8.length c21_8') l2_8, segS 24 5 (.slice A21_9' l2_9.length c21_9') vs21_9 l2_9, segS 24 5 (.slice A21_10' l2_10.length c21_10') vs21_10 l2_10, segB 5 u20 l1, segB 5 u8 (marks (1) R.length), segB 5 u4 R, segX 31 (W.heap.size + 1) [.int .i64 x2_0, .int .i64 x2_1, .int .i64 x2_2, (.slice A2_3 l2_3.length c2_3), (.slice A2_4 l2_4.length c2_4), .int .i64 x2_5, .int .i64 x2_6, (.slice A2_7 l2_7.length c2_7), (.slice A2_8 l2_8.length c2_8), (.slice A2_9 l2_9.length c2_9), (.slice A2_10 l2_10.length c2_10)], segX 23 W.heap.size [.int .i64 x0_0, .int .i64 x0_1, .int .i64 x0_2, .int .i64 x0_3, .int .i64 x0_4]] := HT; clear HT; have HE3 := Lib.hid HX; clear HX; have HK3 := Lib.hid (ten (HE3.out.c5 (.tail _ (.tail _ (.tail _ (.tail _ (.tail _ (.tail _ (.tail _ (.tail _ (.tail _ (.tail _ (.head _)))))))))))) (HE3.out.c11 (.tail _ (.tail _ (.tail _ (.tail _ (.tail _ (.tail _ (.tail _ (.tail _ (.tail _ (.head _)))))))))))))
      | (go_at_call 12; refine (implPutBlock_any x0_0 x0_1 x0_2 x0_3 x0_4 x2_0 x2_1 x2_2 x2_5 x2_6 _ _ _ _ _ _ _ l1 l2_3 l2_4 l2_7 l2_8 l2_9 l2_10 _  (HE3.out.slB 5 (.tail _ (.tail _ (.tail _ (.tail _ (.tail _ (.tail _ (.head _)))))))) (HE3.out.slB 5 (.head _)) (HE3.out.slB 5 (.tail _ (.head _))) (HE3.out.slB 5 (.tail _ (.tail _ (.head _)))) (HE3.out.slB 5 (.tail _ (.tail _ (.tail _ (.head _))))) (HE3.out.slS 24 5 HV21_9.out (.tail _ (.tail _ (.tail _ (.tail _ (.head _)))))) (HE3.out.slS 24 5 HV21_10.out (.tail _ (.tail _ (.tail _ (.tail _ (.tail _ (.head _))))))) (by omega) (by omega) (by omega) (by omega) (hgI.up HE3.out.bel) (hg.up HE3.out.bel)).mono ?_; rw [← HR.out, ← HB0.out]; rintro e w22 ⟨u22, rfl, ho, hb⟩; have HX := HE3.out.moreB ho hb; clear ho hb; have HE4 := Lib.hid HX; clear HX; have HK4 := Lib.hid (ten (HE4.out.c5 (.tail _ (.tail _ (.tail _ (.tail _ (.tail _ (.tail _ (.tail _ (.tail _ (.tail _ (.tail _ (.tail _ (.head _))))))))))))) (HE4.out.c11 (.tail _ (.tail _ (.tail _ (.tail _ (.tail _ (.tail _ (.tail _ (.tail _ (.tail _ (.tail _ (.head _)))))))))))))))
  clear H b41_0 b41_1 b41_2 b41_3 b41_4 b41_5 b41_6 b41_7 b41_8 b41_9 b41_10 b42_0 b42_1 b42_2 b42_3 b42_4
  have H := HE4.out
  clear HE0 HK0 HE1 HK1 HE2 HK2 HE3 HK3 HE4 HK4
  obtain ⟨b43_0, b43_1, b43_2, b43_3, b43_4, b43_5, b43_6, b43_7, b43_8, b43_9, b43_10⟩ := H.c11 (.tail _ (.tail _ (.tail _ (.tail _ (.tail _ (.tail _ (.tail _ (.tail _ (.tail _ (.tail _ (.head _)))))))))))
  obtain ⟨b44_0, b44_1, b44_2, b44_3, b44_4⟩ := H.c5 (.tail _ (.tail _ (.tail _ (.tail _ (.tail _ (.tail _ (.tail _ (.tail _ (.tail _ (.tail _ (.tail _ (.head _))))))))))))
  go_wp2_with fail
  refine (eqByteS_any _ _ R _ (H.slB 5 (.head _)) (H.slB 5 (.tail _ (.tail _ (.tail _ (.tail _ (.tail _ (.tail _ (.tail _ (.tail _ (.tail _ (.head _)))))))))))).mono ?_
  rintro e _ ⟨rfl, d23, rfl⟩
  replace H := H.drewN d23
  clear b43_0 b43_1 b43_2 b43_3 b43_4 b43_5 b43_6 b43_7 b43_8 b43_9 b43_10 b44_0 b44_1 b44_2 b44_3 b44_4
  obtain ⟨b45_0, b45_1, b45_2, b45_3, b45_4, b45_5, b45_6, b45_7, b45_8, b45_9, b45_10⟩ := H.c11 (.tail _ (.tail _ (.tail _ (.tail _ (.tail _ (.tail _ (.tail _ (.tail _ (.tail _ (.tail _ (.head _)))))))))))
  obtain ⟨b46_0, b46_1, b46_2, b46_3, b46_4⟩ := H.c5 (.tail _ (.tail _ (.tail _ (.tail _ (.tail _ (.tail _ (.tail _ (.tail _ (.tail _ (.tail _ (.tail _ (.head _))))))))))))
  go_wp2_with fail
  refine (heldByteS_z _ 1 R.length _ _ (H.slB 5 (.tail _ (.tail _ (.tail _ (.tail _ (.tail _ (.tail _ (.tail _ (.tail _ (.head _)))))))))) rfl (by omega) (by omega)).mono ?_
  rintro e _ ⟨rfl, d24, rfl⟩
  replace H := H.drewN d24
  clear b45_0 b45_1 b45_2 b45_3 b45_4 b45_5 b45_6 b45_7 b45_8 b45_9 b45_10 b46_0 b46_1 b46_2 b46_3 b46_4
  obtain ⟨b47_0, b47_1, b47_2, b47_3, b47_4, b47_5, b47_6, b47_7, b47_8, b47_9, b47_10⟩ := H.c11 (.tail _ (.tail _ (.tail _ (.tail _ (.tail _ (.tail _ (.tail _ (.tail _ (.tail _ (.tail _ (.head _)))))))))))
  obtain ⟨b48_0, b48_1, b48_2, b48_3, b48_4⟩ := H.c5 (.tail _ (.tail _ (.tail _ (.tail _ (.tail _ (.tail _ (.tail _ (.tail _ (.tail _ (.tail _ (.tail _ (.head _))))))))))))
  go_wp2_with fail
  go_ret
  exact ⟨rfl, by have hfin := H.bel; simpa using hfin⟩
end Go.Proofs.YtdoaikanaodefaaGreatDoor
