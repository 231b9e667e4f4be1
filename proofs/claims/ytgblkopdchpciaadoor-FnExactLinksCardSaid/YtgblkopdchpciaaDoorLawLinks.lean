/- The walk of the exact law of Links: for every argument the law answers true and leaves all memory that was there as it was. -/
import Derived.Test.YtgblkopdchpciaaDoorLinks
import Derived.Test.YtgblkopdchpciaaDoorHeadM
import Derived.Deep.RegionHeld3
namespace Go.Proofs.YtgblkopdchpciaaDoor
open Go.ChangeShapes Go.WideShapes Go.ChangeAt Go.RowKit

set_option maxRecDepth 100000 in
set_option maxHeartbeats 8000000 in
theorem Links_walk (x0_0 x0_1 x0_2 x0_3 x0_4 : Int) (x1_0 x1_1 x1_2 x1_5 x1_6 : Int) (v1_3 v1_4 v1_7 v1_8 v1_9 : Value) (l1_3 : List UInt8) (l1_4 : List UInt8) (l1_7 : List UInt8) (l1_8 : List UInt8) (l1_9 : List (List UInt8)) (x2_0 x2_1 x2_2 x2_5 x2_6 : Int) (v2_3 v2_4 v2_7 v2_8 v2_9 : Value) (l2_3 : List UInt8) (l2_4 : List UInt8) (l2_7 : List UInt8) (l2_8 : List UInt8) (l2_9 : List (List UInt8)) (W : World) (h1_3 : Sl W W.heap.size v1_3 l1_3) (h1_4 : Sl W W.heap.size v1_4 l1_4) (h1_7 : Sl W W.heap.size v1_7 l1_7) (h1_8 : Sl W W.heap.size v1_8 l1_8) (h1_9 : SlS W W.heap.size v1_9 l1_9) (h2_3 : Sl W W.heap.size v2_3 l2_3) (h2_4 : Sl W W.heap.size v2_4 l2_4) (h2_7 : Sl W W.heap.size v2_7 l2_7) (h2_8 : Sl W W.heap.size v2_8 l2_8) (h2_9 : SlS W W.heap.size v2_9 l2_9) (hgI : Glob W 0 initW) (hg : Glob W 2 kk) :
    Calls Tryd.prog 5 #[.agg #[.int .i64 x0_0, .int .i64 x0_1, .int .i64 x0_2, .int .i64 x0_3, .int .i64 x0_4], .agg #[.int .i64 x1_0, .int .i64 x1_1, .int .i64 x1_2, v1_3, v1_4, .int .i64 x1_5, .int .i64 x1_6, v1_7, v1_8, v1_9], .agg #[.int .i64 x2_0, .int .i64 x2_1, .int .i64 x2_2, v2_3, v2_4, .int .i64 x2_5, .int .i64 x2_6, v2_7, v2_8, v2_9]] W (Yes W) := by
  have hs1_3 := h1_3
  obtain ⟨A1_3, c1_3, rfl, p1_3, q1_3, r1_3, z1_3⟩ := h1_3
  unfold maxLen at q1_3
  clear r1_3 z1_3
  have hs1_4 := h1_4
  obtain ⟨A1_4, c1_4, rfl, p1_4, q1_4, r1_4, z1_4⟩ := h1_4
  unfold maxLen at q1_4
  clear r1_4 z1_4
  have hs1_7 := h1_7
  obtain ⟨A1_7, c1_7, rfl, p1_7, q1_7, r1_7, z1_7⟩ := h1_7
  unfold maxLen at q1_7
  clear r1_7 z1_7
  have hs1_8 := h1_8
  obtain ⟨A1_8, c1_8, rfl, p1_8, q1_8, r1_8, z1_8⟩ := h1_8
  unfold maxLen at q1_8
  clear r1_8 z1_8
  have hs1_9 := h1_9
  obtain ⟨A1_9, c1_9, rfl, p1_9, q1_9, r1_9, z1_9⟩ := h1_9
  unfold maxLen at q1_9
  clear r1_9 z1_9
  have hs2_3 := h2_3
  obtain ⟨A2_3, c2_3, rfl, p2_3, q2_3, r2_3, z2_3⟩ := h2_3
  unfold maxLen at q2_3
  clear r2_3 z2_3
  have hs2_4 := h2_4
  obtain ⟨A2_4, c2_4, rfl, p2_4, q2_4, r2_4, z2_4⟩ := h2_4
  unfold maxLen at q2_4
  clear r2_4 z2_4
  have hs2_7 := h2_7
  obtain ⟨A2_7, c2_7, rfl, p2_7, q2_7, r2_7, z2_7⟩ := h2_7
  unfold maxLen at q2_7
  clear r2_7 z2_7
  have hs2_8 := h2_8
  obtain ⟨A2_8, c2_8, rfl, p2_8, q2_8, r2_8, z2_8⟩ := h2_8
  unfold maxLen at q2_8
  clear r2_8 z2_8
  have hs2_9 := h2_9
  obtain ⟨A2_9, c2_9, rfl, p2_9, q2_9, r2_9, z2_9⟩ := h2_9
  unfold maxLen at q2_9
  clear r2_9 z2_9
  by_cases hbig : (1048576 : Int) < (l1_3.length : Int) + (l1_4.length : Int) + (l1_7.length : Int) + (l1_8.length : Int) + (l1_9.length : Int) + (sumL l1_9 : Int)
  · have HZ0 : Hid (szHZ l1_3 l1_4 l1_7 l1_8 l1_9 (1048576 : Int) = -1) := Lib.hid (by exact szHZ_big hbig)
    clear hbig
    have H : InvF W W [] := InvF.start W
    replace H := H.newG 23 #[.int .i64 x0_0, .int .i64 x0_1, .int .i64 x0_2, .int .i64 x0_3, .int .i64 x0_4] (W.heap.size)
    replace H := H.newG 42 #[.int .i64 x1_0, .int .i64 x1_1, .int .i64 x1_2, .slice A1_3 l1_3.length c1_3, .slice A1_4 l1_4.length c1_4, .int .i64 x1_5, .int .i64 x1_6, .slice A1_7 l1_7.length c1_7, .slice A1_8 l1_8.length c1_8, .slice A1_9 l1_9.length c1_9] (W.heap.size + 1)
    replace H := H.newG 42 #[.int .i64 x2_0, .int .i64 x2_1, .int .i64 x2_2, .slice A2_3 l2_3.length c2_3, .slice A2_4 l2_4.length c2_4, .int .i64 x2_5, .int .i64 x2_6, .slice A2_7 l2_7.length c2_7, .slice A2_8 l2_8.length c2_8, .slice A2_9 l2_9.length c2_9] (W.heap.size + 1 + 1)
    replace H : InvF W _ [segX 42 (W.heap.size + 1 + 1) [.int .i64 x2_0, .int .i64 x2_1, .int .i64 x2_2, (.slice A2_3 l2_3.length c2_3), (.slice A2_4 l2_4.length c2_4), .int .i64 x2_5, .int .i64 x2_6, (.slice A2_7 l2_7.length c2_7), (.slice A2_8 l2_8.length c2_8), (.slice A2_9 l2_9.length c2_9)], segX 42 (W.heap.size + 1) [.int .i64 x1_0, .int .i64 x1_1, .int .i64 x1_2, (.slice A1_3 l1_3.length c1_3), (.slice A1_4 l1_4.length c1_4), .int .i64 x1_5, .int .i64 x1_6, (.slice A1_7 l1_7.length c1_7), (.slice A1_8 l1_8.length c1_8), (.slice A1_9 l1_9.length c1_9)], segX 23 W.heap.size [.int .i64 x0_0, .int .i64 x0_1, .int .i64 x0_2, .int .i64 x0_3, .int .i64 x0_4]] := H
    go_enter Tryd.func5, Tryd.ntmps5
    obtain ⟨b1_0, b1_1, b1_2, b1_3, b1_4, b1_5, b1_6, b1_7, b1_8, b1_9⟩ := H.c10 (.head _)
    obtain ⟨b2_0, b2_1, b2_2, b2_3, b2_4, b2_5, b2_6, b2_7, b2_8, b2_9⟩ := H.c10 (.tail _ (.head _))
    obtain ⟨b3_0, b3_1, b3_2, b3_3, b3_4⟩ := H.c5 (.tail _ (.tail _ (.head _)))
    go_wp2_with fail
    refine (szHead_any x1_0 x1_1 x1_2 x1_5 x1_6 _ _ _ _ _ l1_3 l1_4 l1_7 l1_8 l1_9 1048576 _ (hs1_3.up H.bel) (hs1_4.up H.bel) (hs1_7.up H.bel) (hs1_8.up H.bel) (hs1_9.up H.bel) (by omega) (by omega)).mono ?_
    rw [HZ0.out]
    rintro e w' ⟨rfl, hb⟩
    replace H := H.up hb
    clear hb
    clear b1_0 b1_1 b1_2 b1_3 b1_4 b1_5 b1_6 b1_7 b1_8 b1_9 b2_0 b2_1 b2_2 b2_3 b2_4 b2_5 b2_6 b2_7 b2_8 b2_9 b3_0 b3_1 b3_2 b3_3 b3_4
    obtain ⟨b4_0, b4_1, b4_2, b4_3, b4_4, b4_5, b4_6, b4_7, b4_8, b4_9⟩ := H.c10 (.head _)
    obtain ⟨b5_0, b5_1, b5_2, b5_3, b5_4, b5_5, b5_6, b5_7, b5_8, b5_9⟩ := H.c10 (.tail _ (.head _))
    obtain ⟨b6_0, b6_1, b6_2, b6_3, b6_4⟩ := H.c5 (.tail _ (.tail _ (.head _)))
    go_wp2
    go_ret
    exact ⟨rfl, H.bel⟩
  obtain ⟨zz0, hz⟩ : ∃ z, z = (1048576 : Int) - ((l1_3.length : Int) + (l1_4.length : Int) + (l1_7.length : Int) + (l1_8.length : Int) + (l1_9.length : Int) + (sumL l1_9 : Int)) := ⟨_, rfl⟩
  have HZ0 : Hid (szHZ l1_3 l1_4 l1_7 l1_8 l1_9 (1048576 : Int) = zz0) := Lib.hid (by rw [hz]; exact szHZ_ok hbig)
  have hzlo0 : 0 ≤ zz0 := by omega
  have hzhi0 : zz0 ≤ 1048576 := by omega
  have hzn0 : ¬ (zz0 < 0) := by omega
  have hL1_3 : l1_3.length ≤ 1048576 := by omega
  have hL1_4 : l1_4.length ≤ 1048576 := by omega
  have hL1_7 : l1_7.length ≤ 1048576 := by omega
  have hL1_8 : l1_8.length ≤ 1048576 := by omega
  have hL1_9 : l1_9.length ≤ 1048576 := by omega
  have hN1_9 : sumL l1_9 ≤ 1048576 := by omega
  have hT1 : l1_3.length + l1_4.length + l1_7.length + l1_8.length + l1_9.length + sumL l1_9 ≤ 1048576 := by omega
  clear hbig hz
  by_cases hbig : zz0 < (l2_3.length : Int) + (l2_4.length : Int) + (l2_7.length : Int) + (l2_8.length : Int) + (l2_9.length : Int) + (sumL l2_9 : Int)
  · have HZ1 : Hid (szHZ l2_3 l2_4 l2_7 l2_8 l2_9 zz0 = -1) := Lib.hid (by exact szHZ_big hbig)
    clear hbig
    have H : InvF W W [] := InvF.start W
    replace H := H.newG 23 #[.int .i64 x0_0, .int .i64 x0_1, .int .i64 x0_2, .int .i64 x0_3, .int .i64 x0_4] (W.heap.size)
    replace H := H.newG 42 #[.int .i64 x1_0, .int .i64 x1_1, .int .i64 x1_2, .slice A1_3 l1_3.length c1_3, .slice A1_4 l1_4.length c1_4, .int .i64 x1_5, .int .i64 x1_6, .slice A1_7 l1_7.length c1_7, .slice A1_8 l1_8.length c1_8, .slice A1_9 l1_9.length c1_9] (W.heap.size + 1)
    replace H := H.newG 42 #[.int .i64 x2_0, .int .i64 x2_1, .int .i64 x2_2, .slice A2_3 l2_3.length c2_3, .slice A2_4 l2_4.length c2_4, .int .i64 x2_5, .int .i64 x2_6, .slice A2_7 l2_7.length c2_7, .slice A2_8 l2_8.length c2_8, .slice A2_9 l2_9.length c2_9] (W.heap.size + 1 + 1)
    replace H : InvF W _ [segX 42 (W.heap.size + 1 + 1) [.int .i64 x2_0, .int .i64 x2_1, .int .i64 x2_2, (.slice A2_3 l2_3.length c2_3), (.slice A2_4 l2_4.length c2_4), .int .i64 x2_5, .int .i64 x2_6, (.slice A2_7 l2_7.length c2_7), (.slice A2_8 l2_8.length c2_8), (.slice A2_9 l2_9.length c2_9)], segX 42 (W.heap.size + 1) [.int .i64 x1_0, .int .i64 x1_1, .int .i64 x1_2, (.slice A1_3 l1_3.length c1_3), (.slice A1_4 l1_4.length c1_4), .int .i64 x1_5, .int .i64 x1_6, (.slice A1_7 l1_7.length c1_7), (.slice A1_8 l1_8.length c1_8), (.slice A1_9 l1_9.length c1_9)], segX 23 W.heap.size [.int .i64 x0_0, .int .i64 x0_1, .int .i64 x0_2, .int .i64 x0_3, .int .i64 x0_4]] := H
    go_enter Tryd.func5, Tryd.ntmps5
    obtain ⟨b7_0, b7_1, b7_2, b7_3, b7_4, b7_5, b7_6, b7_7, b7_8, b7_9⟩ := H.c10 (.head _)
    obtain ⟨b8_0, b8_1, b8_2, b8_3, b8_4, b8_5, b8_6, b8_7, b8_8, b8_9⟩ := H.c10 (.tail _ (.head _))
    obtain ⟨b9_0, b9_1, b9_2, b9_3, b9_4⟩ := H.c5 (.tail _ (.tail _ (.head _)))
    go_wp2_with fail
    refine (szHead_any x1_0 x1_1 x1_2 x1_5 x1_6 _ _ _ _ _ l1_3 l1_4 l1_7 l1_8 l1_9 1048576 _ (hs1_3.up H.bel) (hs1_4.up H.bel) (hs1_7.up H.bel) (hs1_8.up H.bel) (hs1_9.up H.bel) (by omega) (by omega)).mono ?_
    rw [HZ0.out]
    rintro e w' ⟨rfl, hb⟩
    replace H := H.up hb
    clear hb
    clear b7_0 b7_1 b7_2 b7_3 b7_4 b7_5 b7_6 b7_7 b7_8 b7_9 b8_0 b8_1 b8_2 b8_3 b8_4 b8_5 b8_6 b8_7 b8_8 b8_9 b9_0 b9_1 b9_2 b9_3 b9_4
    obtain ⟨b10_0, b10_1, b10_2, b10_3, b10_4, b10_5, b10_6, b10_7, b10_8, b10_9⟩ := H.c10 (.head _)
    obtain ⟨b11_0, b11_1, b11_2, b11_3, b11_4, b11_5, b11_6, b11_7, b11_8, b11_9⟩ := H.c10 (.tail _ (.head _))
    obtain ⟨b12_0, b12_1, b12_2, b12_3, b12_4⟩ := H.c5 (.tail _ (.tail _ (.head _)))
    go_wp2_with fail
    refine (szHead_any x2_0 x2_1 x2_2 x2_5 x2_6 _ _ _ _ _ l2_3 l2_4 l2_7 l2_8 l2_9 zz0 _ (hs2_3.up H.bel) (hs2_4.up H.bel) (hs2_7.up H.bel) (hs2_8.up H.bel) (hs2_9.up H.bel) (by omega) (by omega)).mono ?_
    rw [HZ1.out]
    rintro e w' ⟨rfl, hb⟩
    replace H := H.up hb
    clear hb
    clear b10_0 b10_1 b10_2 b10_3 b10_4 b10_5 b10_6 b10_7 b10_8 b10_9 b11_0 b11_1 b11_2 b11_3 b11_4 b11_5 b11_6 b11_7 b11_8 b11_9 b12_0 b12_1 b12_2 b12_3 b12_4
    obtain ⟨b13_0, b13_1, b13_2, b13_3, b13_4, b13_5, b13_6, b13_7, b13_8, b13_9⟩ := H.c10 (.head _)
    obtain ⟨b14_0, b14_1, b14_2, b14_3, b14_4, b14_5, b14_6, b14_7, b14_8, b14_9⟩ := H.c10 (.tail _ (.head _))
    obtain ⟨b15_0, b15_1, b15_2, b15_3, b15_4⟩ := H.c5 (.tail _ (.tail _ (.head _)))
    go_wp2
    go_ret
    exact ⟨rfl, H.bel⟩
  obtain ⟨zz1, hz⟩ : ∃ z, z = zz0 - ((l2_3.length : Int) + (l2_4.length : Int) + (l2_7.length : Int) + (l2_8.length : Int) + (l2_9.length : Int) + (sumL l2_9 : Int)) := ⟨_, rfl⟩
  have HZ1 : Hid (szHZ l2_3 l2_4 l2_7 l2_8 l2_9 zz0 = zz1) := Lib.hid (by rw [hz]; exact szHZ_ok hbig)
  have hzlo1 : 0 ≤ zz1 := by omega
  have hzhi1 : zz1 ≤ 1048576 := by omega
  have hzn1 : ¬ (zz1 < 0) := by omega
  have hL2_3 : l2_3.length ≤ 1048576 := by omega
  have hL2_4 : l2_4.length ≤ 1048576 := by omega
  have hL2_7 : l2_7.length ≤ 1048576 := by omega
  have hL2_8 : l2_8.length ≤ 1048576 := by omega
  have hL2_9 : l2_9.length ≤ 1048576 := by omega
  have hN2_9 : sumL l2_9 ≤ 1048576 := by omega
  have hT2 : l2_3.length + l2_4.length + l2_7.length + l2_8.length + l2_9.length + sumL l2_9 ≤ 1048576 := by omega
  clear hbig hz
  obtain ⟨b0, hB⟩ : ∃ b, b = linkB x0_0 x0_1 x0_2 x0_3 x0_4 x1_0 x1_1 x1_2 x1_5 x1_6 l1_3 l1_4 l1_7 l1_8 l1_9 x2_0 x2_1 x2_2 x2_5 x2_6 l2_3 l2_4 l2_7 l2_8 l2_9 := ⟨_, rfl⟩
  have HB0 := Lib.hid hB
  clear hB
  have hbb0 : (b0 != b0) = false := by simp
  have H : InvF W W [] := InvF.start W
  replace H := H.newG 23 #[.int .i64 x0_0, .int .i64 x0_1, .int .i64 x0_2, .int .i64 x0_3, .int .i64 x0_4] (W.heap.size)
  replace H := H.newG 42 #[.int .i64 x1_0, .int .i64 x1_1, .int .i64 x1_2, .slice A1_3 l1_3.length c1_3, .slice A1_4 l1_4.length c1_4, .int .i64 x1_5, .int .i64 x1_6, .slice A1_7 l1_7.length c1_7, .slice A1_8 l1_8.length c1_8, .slice A1_9 l1_9.length c1_9] (W.heap.size + 1)
  replace H := H.newG 42 #[.int .i64 x2_0, .int .i64 x2_1, .int .i64 x2_2, .slice A2_3 l2_3.length c2_3, .slice A2_4 l2_4.length c2_4, .int .i64 x2_5, .int .i64 x2_6, .slice A2_7 l2_7.length c2_7, .slice A2_8 l2_8.length c2_8, .slice A2_9 l2_9.length c2_9] (W.heap.size + 1 + 1)
  replace H : InvF W _ [segX 42 (W.heap.size + 1 + 1) [.int .i64 x2_0, .int .i64 x2_1, .int .i64 x2_2, (.slice A2_3 l2_3.length c2_3), (.slice A2_4 l2_4.length c2_4), .int .i64 x2_5, .int .i64 x2_6, (.slice A2_7 l2_7.length c2_7), (.slice A2_8 l2_8.length c2_8), (.slice A2_9 l2_9.length c2_9)], segX 42 (W.heap.size + 1) [.int .i64 x1_0, .int .i64 x1_1, .int .i64 x1_2, (.slice A1_3 l1_3.length c1_3), (.slice A1_4 l1_4.length c1_4), .int .i64 x1_5, .int .i64 x1_6, (.slice A1_7 l1_7.length c1_7), (.slice A1_8 l1_8.length c1_8), (.slice A1_9 l1_9.length c1_9)], segX 23 W.heap.size [.int .i64 x0_0, .int .i64 x0_1, .int .i64 x0_2, .int .i64 x0_3, .int .i64 x0_4]] := H
  go_enter Tryd.func5, Tryd.ntmps5
  obtain ⟨b16_0, b16_1, b16_2, b16_3, b16_4, b16_5, b16_6, b16_7, b16_8, b16_9⟩ := H.c10 (.head _)
  obtain ⟨b17_0, b17_1, b17_2, b17_3, b17_4, b17_5, b17_6, b17_7, b17_8, b17_9⟩ := H.c10 (.tail _ (.head _))
  obtain ⟨b18_0, b18_1, b18_2, b18_3, b18_4⟩ := H.c5 (.tail _ (.tail _ (.head _)))
  go_wp2_with fail
  refine (szHead_any x1_0 x1_1 x1_2 x1_5 x1_6 _ _ _ _ _ l1_3 l1_4 l1_7 l1_8 l1_9 1048576 _ (hs1_3.up H.bel) (hs1_4.up H.bel) (hs1_7.up H.bel) (hs1_8.up H.bel) (hs1_9.up H.bel) (by omega) (by omega)).mono ?_
  rw [HZ0.out]
  rintro e w' ⟨rfl, hb⟩
  replace H := H.up hb
  clear hb
  clear b16_0 b16_1 b16_2 b16_3 b16_4 b16_5 b16_6 b16_7 b16_8 b16_9 b17_0 b17_1 b17_2 b17_3 b17_4 b17_5 b17_6 b17_7 b17_8 b17_9 b18_0 b18_1 b18_2 b18_3 b18_4
  obtain ⟨b19_0, b19_1, b19_2, b19_3, b19_4, b19_5, b19_6, b19_7, b19_8, b19_9⟩ := H.c10 (.head _)
  obtain ⟨b20_0, b20_1, b20_2, b20_3, b20_4, b20_5, b20_6, b20_7, b20_8, b20_9⟩ := H.c10 (.tail _ (.head _))
  obtain ⟨b21_0, b21_1, b21_2, b21_3, b21_4⟩ := H.c5 (.tail _ (.tail _ (.head _)))
  go_wp2_with fail
  refine (szHead_any x2_0 x2_1 x2_2 x2_5 x2_6 _ _ _ _ _ l2_3 l2_4 l2_7 l2_8 l2_9 zz0 _ (hs2_3.up H.bel) (hs2_4.up H.bel) (hs2_7.up H.bel) (hs2_8.up H.bel) (hs2_9.up H.bel) (by omega) (by omega)).mono ?_
  rw [HZ1.out]
  rintro e w' ⟨rfl, hb⟩
  replace H := H.up hb
  clear hb
  clear b19_0 b19_1 b19_2 b19_3 b19_4 b19_5 b19_6 b19_7 b19_8 b19_9 b20_0 b20_1 b20_2 b20_3 b20_4 b20_5 b20_6 b20_7 b20_8 b20_9 b21_0 b21_1 b21_2 b21_3 b21_4
  obtain ⟨b22_0, b22_1, b22_2, b22_3, b22_4, b22_5, b22_6, b22_7, b22_8, b22_9⟩ := H.c10 (.head _)
  obtain ⟨b23_0, b23_1, b23_2, b23_3, b23_4, b23_5, b23_6, b23_7, b23_8, b23_9⟩ := H.c10 (.tail _ (.head _))
  obtain ⟨b24_0, b24_1, b24_2, b24_3, b24_4⟩ := H.c5 (.tail _ (.tail _ (.head _)))
  have HE0 := Lib.hid (H.drewN 1)
  have HK0 := Lib.hid (ten (HE0.out.c5 (.tail _ (.tail _ (.head _)))) (ten10 (HE0.out.k10 (.tail _ (.head _))) (HE0.out.k10 (.head _))))
  go_wp2_with fail
  go_region_held3 (fun w' => w'.cell? ⟨W.heap.size, 0, none⟩ = some (.int .i64 x0_0) ∧ w'.cell? ⟨W.heap.size, 1, none⟩ = some (.int .i64 x0_1) ∧ w'.cell? ⟨W.heap.size, 2, none⟩ = some (.int .i64 x0_2) ∧ w'.cell? ⟨W.heap.size, 3, none⟩ = some (.int .i64 x0_3) ∧ w'.cell? ⟨W.heap.size, 4, none⟩ = some (.int .i64 x0_4) ∧ w'.cell? ⟨W.heap.size + 1, 0, none⟩ = some (.int .i64 x1_0) ∧ w'.cell? ⟨W.heap.size + 1, 1, none⟩ = some (.int .i64 x1_1) ∧ w'.cell? ⟨W.heap.size + 1, 2, none⟩ = some (.int .i64 x1_2) ∧ w'.cell? ⟨W.heap.size + 1, 3, none⟩ = some (.slice A1_3 l1_3.length c1_3) ∧ w'.cell? ⟨W.heap.size + 1, 4, none⟩ = some (.slice A1_4 l1_4.length c1_4) ∧ w'.cell? ⟨W.heap.size + 1, 5, none⟩ = some (.int .i64 x1_5) ∧ w'.cell? ⟨W.heap.size + 1, 6, none⟩ = some (.int .i64 x1_6) ∧ w'.cell? ⟨W.heap.size + 1, 7, none⟩ = some (.slice A1_7 l1_7.length c1_7) ∧ w'.cell? ⟨W.heap.size + 1, 8, none⟩ = some (.slice A1_8 l1_8.length c1_8) ∧ w'.cell? ⟨W.heap.size + 1, 9, none⟩ = some (.slice A1_9 l1_9.length c1_9) ∧ w'.cell? ⟨W.heap.size + 1 + 1, 0, none⟩ = some (.int .i64 x2_0) ∧ w'.cell? ⟨W.heap.size + 1 + 1, 1, none⟩ = some (.int .i64 x2_1) ∧ w'.cell? ⟨W.heap.size + 1 + 1, 2, none⟩ = some (.int .i64 x2_2) ∧ w'.cell? ⟨W.heap.size + 1 + 1, 3, none⟩ = some (.slice A2_3 l2_3.length c2_3) ∧ w'.cell? ⟨W.heap.size + 1 + 1, 4, none⟩ = some (.slice A2_4 l2_4.length c2_4) ∧ w'.cell? ⟨W.heap.size + 1 + 1, 5, none⟩ = some (.int .i64 x2_5) ∧ w'.cell? ⟨W.heap.size + 1 + 1, 6, none⟩ = some (.int .i64 x2_6) ∧ w'.cell? ⟨W.heap.size + 1 + 1, 7, none⟩ = some (.slice A2_7 l2_7.length c2_7) ∧ w'.cell? ⟨W.heap.size + 1 + 1, 8, none⟩ = some (.slice A2_8 l2_8.length c2_8) ∧ w'.cell? ⟨W.heap.size + 1 + 1, 9, none⟩ = some (.slice A2_9 l2_9.length c2_9))
    (first
      | exact HK0.out
      | exact HK1.out
      | exact HK2.out
      | exact HK3.out
      | exact HK4.out)
    (first
      | (go_at_call_of 7 (Value.int IntKind.i64 x0_0); refine (toLimits_any x0_0 x0_1 x0_2 x0_3 x0_4   _  ).mono ?_; rintro e w1 ⟨rfl, hb⟩; have HX := HE0.out.up hb; clear hb; have HE1 := Lib.hid HX; clear HX; have HK1 := Lib.hid (ten (HE1.out.c5 (.tail _ (.tail _ (.head _)))) (ten10 (HE1.out.k10 (.tail _ (.head _))) (HE1.out.k10 (.head _)))))
      | (go_at_call_of 17 (Value.int IntKind.i64 x1_0); refine (toHead_any x1_0 x1_1 x1_2 x1_5 x1_6 _ _ _ _ _ l1_3 l1_4 l1_7 l1_8 l1_9 _ (hs1_3.up HE1.out.bel) (hs1_4.up HE1.out.bel) (hs1_7.up HE1.out.bel) (hs1_8.up HE1.out.bel) (hs1_9.up HE1.out.bel) hL1_3 hL1_4 hL1_7 hL1_8 hL1_9 hN1_9).mono ?_; rintro e w2 ⟨u2_3, u2_4, u2_7, u2_8, u2_9, vs2_9, rfl, hv2_9, K⟩; have HV2_9 := Lib.hid hv2_9; obtain ⟨A2_3', c2_3', rfl⟩ := K.openB' (.head _); obtain ⟨A2_4', c2_4', rfl⟩ := K.openB' (.tail _ (.head _)); obtain ⟨A2_7', c2_7', rfl⟩ := K.openB' (.tail _ (.tail _ (.head _))); obtain ⟨A2_8', c2_8', rfl⟩ := K.openB' (.tail _ (.tail _ (.tail _ (.head _)))); obtain ⟨A2_9', c2_9', rfl⟩ := K.openS hv2_9 (.tail _ (.tail _ (.tail _ (.tail _ (.head _))))); clear hv2_9; have HT := HE1.out.moreF K; clear K; have HX : InvF W w2 [segB 5 (.slice A2_3' l1_3.length c2_3') l1_3, segB 5 (.slice A2_4' l1_4.length c2_4') l1_4, segB 5 (.slice A2_7' l1_7.length c2_7') l1_7, segB 5 (.slice A2_8' l1_8.length c2_8') l1_8, segS 24 5 (.slice A2_9' l1_9.length c2_9') vs2_9 l1_9, segX 42 (W.heap.size + 1 + 1) [.int .i64 x2_0, .int .i64 x2_1, .int .i64 x2_2, (.slice A2_3 l2_3.length c2_3), (.slice A2_4 l2_4.length c2_4), .int .i64 x2_5, .int .i64 x2_6, (.slice A2_7 l2_7.length c2_7), (.slice A2_8 l2_8.length c2_8), (.slice A2_9 l2_9.length c2_9)], segX 42 (W.heap.size + 1) [.int .i64 x1_0, .int .i64 x1_1, .int .i64 x1_2, (.slice A1_3 l1_3.length c1_3), (.slice A1_4 l1_4.length c1_4), .int .i64 x1_5, .int .i64 x1_6, (.slice A1_7 l1_7.length c1_7), (.slice A1_8 l1_8.length c1_8), (.slice A1_9 l1_9.length c1_9)], segX 23 W.heap.size [.int .i64 x0_0, .int .i64 x0_1, .int .i64 x0_2, .int .i64 x0_3, .int .i64 x0_4]] := HT; clear HT; have HE2 := Lib.hid HX; clear HX; have HK2 := Lib.hid (ten (HE2.out.c5 (.tail _ (.tail _ (.tail _ (.tail _ (.tail _ (.tail _ (.tail _ (.head _))))))))) (ten10 (HE2.out.k10 (.tail _ (.tail _ (.tail _ (.tail _ (.tail _ (.tail _ (.head _)))))))) (HE2.out.k10 (.tail _ (.tail _ (.tail _ (.tail _ (.tail _ (.head _))))))))))
      | (go_at_call_of 17 (Value.int IntKind.i64 x2_0); refine (toHead_any x2_0 x2_1 x2_2 x2_5 x2_6 _ _ _ _ _ l2_3 l2_4 l2_7 l2_8 l2_9 _ (hs2_3.up HE2.out.bel) (hs2_4.up HE2.out.bel) (hs2_7.up HE2.out.bel) (hs2_8.up HE2.out.bel) (hs2_9.up HE2.out.bel) hL2_3 hL2_4 hL2_7 hL2_8 hL2_9 hN2_9).mono ?_; rintro e w3 ⟨u3_3, u3_4, u3_7, u3_8, u3_9, vs3_9, rfl, hv3_9, K⟩; have HV3_9 := Lib.hid hv3_9; obtain ⟨A3_3', c3_3', rfl⟩ := K.openB' (.head _); obtain ⟨A3_4', c3_4', rfl⟩ := K.openB' (.tail _ (.head _)); obtain ⟨A3_7', c3_7', rfl⟩ := K.openB' (.tail _ (.tail _ (.head _))); obtain ⟨A3_8', c3_8', rfl⟩ := K.openB' (.tail _ (.tail _ (.tail _ (.head _)))); obtain ⟨A3_9', c3_9', rfl⟩ := K.openS hv3_9 (.tail _ (.tail _ (.tail _ (.tail _ (.head _))))); clear hv3_9; have HT := HE2.out.moreF K; clear K; have HX : InvF W w3 [segB 5 (.slice A3_3' l2_3.length c3_3') l2_3, segB 5 (.slice A3_4' l2_4.length c3_4') l2_4, segB 5 (.slice A3_7' l2_7.length c3_7') l2_7, segB 5 (.slice A3_8' l2_8.length c3_8') l2_8, segS 24 5 (.slice A3_9' l2_9.length c3_9') vs3_9 l2_9, segB 5 (.slice A2_3' l1_3.length c2_3') l1_3, segB 5 (.slice A2_4' l1_4.length c2_4') l1_4, segB 5 (.slice A2_7' l1_7.length c2_7') l1_7, segB 5 (.slice A2_8' l1_8.length c2_8') l1_8, segS 24 5 (.slice A2_9' l1_9.length c2_9') vs2_9 l1_9, segX 42 (W.heap.size + 1 + 1) [.int .i64 x2_0, .int .i64 x2_1, .int .i64 x2_2, (.slice A2_3 l2_3.length c2_3), (.slice A2_4 l2_4.length c2_4), .int .i64 x2_5, .int .i64 x2_6, (.slice A2_7 l2_7.length c2_7), (.slice A2_8 l2_8.length c2_8), (.slice A2_9 l2_9.length c2_9)], segX 42 (W.heap.size + 1) [.int .i64 x1_0, .int .i64 x1_1, .int .i64 x1_2, (.slice A1_3 l1_3.length c1_3), (.slice A1_4 l1_4.length c1_4), .int .i64 x1_5, .int .i64 x1_6, (.slice A1_7 l1_7.length c1_7), (.slice A1_8 l1_8.length c1_8), (.slice A1_9 l1_9.length c1_9)], segX 23 W.heap.size [.int .i64 x0_0, .int .i64 x0_1, .int .i64 x0_2, .int .i64 x0_3, .int .i64 x0_4]] := HT; clear HT; have HE3 := Lib.hid HX; clear HX; have HK3 := Lib.hid (ten (HE3.out.c5 (.tail _ (.tail _ (.tail _ (.tail _ (.tail _ (.tail _ (.tail _ (.tail _ (.tail _ (.tail _ (.tail _ (.tail _ (.head _)))))))))))))) (ten10 (HE3.out.k10 (.tail _ (.tail _ (.tail _ (.tail _ (.tail _ (.tail _ (.tail _ (.tail _ (.tail _ (.tail _ (.tail _ (.head _))))))))))))) (HE3.out.k10 (.tail _ (.tail _ (.tail _ (.tail _ (.tail _ (.tail _ (.tail _ (.tail _ (.tail _ (.tail _ (.head _)))))))))))))))
      | (go_at_call 20; refine (specLinks_any x0_0 x0_1 x0_2 x0_3 x0_4 x1_0 x1_1 x1_2 x1_5 x1_6 x2_0 x2_1 x2_2 x2_5 x2_6 _ _ _ _ _ _ _ _ _ _ l1_3 l1_4 l1_7 l1_8 l1_9 l2_3 l2_4 l2_7 l2_8 l2_9 _  (HE3.out.slB 5 (.tail _ (.tail _ (.tail _ (.tail _ (.tail _ (.head _))))))) (HE3.out.slB 5 (.tail _ (.tail _ (.tail _ (.tail _ (.tail _ (.tail _ (.head _)))))))) (HE3.out.slB 5 (.tail _ (.tail _ (.tail _ (.tail _ (.tail _ (.tail _ (.tail _ (.head _))))))))) (HE3.out.slB 5 (.tail _ (.tail _ (.tail _ (.tail _ (.tail _ (.tail _ (.tail _ (.tail _ (.head _)))))))))) (HE3.out.slS 24 5 HV2_9.out (.tail _ (.tail _ (.tail _ (.tail _ (.tail _ (.tail _ (.tail _ (.tail _ (.tail _ (.head _))))))))))) (HE3.out.slB 5 (.head _)) (HE3.out.slB 5 (.tail _ (.head _))) (HE3.out.slB 5 (.tail _ (.tail _ (.head _)))) (HE3.out.slB 5 (.tail _ (.tail _ (.tail _ (.head _))))) (HE3.out.slS 24 5 HV3_9.out (.tail _ (.tail _ (.tail _ (.tail _ (.head _)))))) (by omega) (by omega) ).mono ?_; rw [← HB0.out]; rintro e w4 ⟨rfl, hb⟩; have HX := HE3.out.up hb; clear hb; have HE4 := Lib.hid HX; clear HX; have HK4 := Lib.hid (ten (HE4.out.c5 (.tail _ (.tail _ (.tail _ (.tail _ (.tail _ (.tail _ (.tail _ (.tail _ (.tail _ (.tail _ (.tail _ (.tail _ (.head _)))))))))))))) (ten10 (HE4.out.k10 (.tail _ (.tail _ (.tail _ (.tail _ (.tail _ (.tail _ (.tail _ (.tail _ (.tail _ (.tail _ (.tail _ (.head _))))))))))))) (HE4.out.k10 (.tail _ (.tail _ (.tail _ (.tail _ (.tail _ (.tail _ (.tail _ (.tail _ (.tail _ (.tail _ (.head _))))))))))))))))
  clear H b22_0 b22_1 b22_2 b22_3 b22_4 b22_5 b22_6 b22_7 b22_8 b22_9 b23_0 b23_1 b23_2 b23_3 b23_4 b23_5 b23_6 b23_7 b23_8 b23_9 b24_0 b24_1 b24_2 b24_3 b24_4
  have H := HE4.out
  clear HE0 HK0 HE1 HK1 HE2 HK2 HE3 HK3 HE4 HK4
  replace H := H.sub (qs := [segX 42 (W.heap.size + 1 + 1) [.int .i64 x2_0, .int .i64 x2_1, .int .i64 x2_2, (.slice A2_3 l2_3.length c2_3), (.slice A2_4 l2_4.length c2_4), .int .i64 x2_5, .int .i64 x2_6, (.slice A2_7 l2_7.length c2_7), (.slice A2_8 l2_8.length c2_8), (.slice A2_9 l2_9.length c2_9)], segX 42 (W.heap.size + 1) [.int .i64 x1_0, .int .i64 x1_1, .int .i64 x1_2, (.slice A1_3 l1_3.length c1_3), (.slice A1_4 l1_4.length c1_4), .int .i64 x1_5, .int .i64 x1_6, (.slice A1_7 l1_7.length c1_7), (.slice A1_8 l1_8.length c1_8), (.slice A1_9 l1_9.length c1_9)], segX 23 W.heap.size [.int .i64 x0_0, .int .i64 x0_1, .int .i64 x0_2, .int .i64 x0_3, .int .i64 x0_4]]) (.cons _ (.cons _ (.cons _ (.cons _ (.cons _ (.cons _ (.cons _ (.cons _ (.cons _ (.cons _ (.cons_cons _ (.cons_cons _ (.cons_cons _ .slnil)))))))))))))
  obtain ⟨b25_0, b25_1, b25_2, b25_3, b25_4, b25_5, b25_6, b25_7, b25_8, b25_9⟩ := H.c10 (.head _)
  obtain ⟨b26_0, b26_1, b26_2, b26_3, b26_4, b26_5, b26_6, b26_7, b26_8, b26_9⟩ := H.c10 (.tail _ (.head _))
  obtain ⟨b27_0, b27_1, b27_2, b27_3, b27_4⟩ := H.c5 (.tail _ (.tail _ (.head _)))
  go_wp2_with fail
  refine (toHead_any x1_0 x1_1 x1_2 x1_5 x1_6 _ _ _ _ _ l1_3 l1_4 l1_7 l1_8 l1_9 _ (hs1_3.up H.bel) (hs1_4.up H.bel) (hs1_7.up H.bel) (hs1_8.up H.bel) (hs1_9.up H.bel) hL1_3 hL1_4 hL1_7 hL1_8 hL1_9 hN1_9).mono ?_
  rintro e w5 ⟨u5_3, u5_4, u5_7, u5_8, u5_9, vs5_9, rfl, hv5_9, K⟩
  have HV5_9 := Lib.hid hv5_9
  obtain ⟨A5_3', c5_3', rfl⟩ := K.openB' (.head _)
  obtain ⟨A5_4', c5_4', rfl⟩ := K.openB' (.tail _ (.head _))
  obtain ⟨A5_7', c5_7', rfl⟩ := K.openB' (.tail _ (.tail _ (.head _)))
  obtain ⟨A5_8', c5_8', rfl⟩ := K.openB' (.tail _ (.tail _ (.tail _ (.head _))))
  obtain ⟨A5_9', c5_9', rfl⟩ := K.openS hv5_9 (.tail _ (.tail _ (.tail _ (.tail _ (.head _)))))
  clear hv5_9
  have HT := H.moreF K
  clear K
  replace H : InvF W w5 [segB 5 (.slice A5_3' l1_3.length c5_3') l1_3, segB 5 (.slice A5_4' l1_4.length c5_4') l1_4, segB 5 (.slice A5_7' l1_7.length c5_7') l1_7, segB 5 (.slice A5_8' l1_8.length c5_8') l1_8, segS 24 5 (.slice A5_9' l1_9.length c5_9') vs5_9 l1_9, segX 42 (W.heap.size + 1 + 1) [.int .i64 x2_0, .int .i64 x2_1, .int .i64 x2_2, (.slice A2_3 l2_3.length c2_3), (.slice A2_4 l2_4.length c2_4), .int .i64 x2_5, .int .i64 x2_6, (.slice A2_7 l2_7.length c2_7), (.slice A2_8 l2_8.length c2_8), (.slice A2_9 l2_9.length c2_9)], segX 42 (W.heap.size + 1) [.int .i64 x1_0, .int .i64 x1_1, .int .i64 x1_2, (.slice A1_3 l1_3.length c1_3), (.slice A1_4 l1_4.length c1_4), .int .i64 x1_5, .int .i64 x1_6, (.slice A1_7 l1_7.length c1_7), (.slice A1_8 l1_8.length c1_8), (.slice A1_9 l1_9.length c1_9)], segX 23 W.heap.size [.int .i64 x0_0, .int .i64 x0_1, .int .i64 x0_2, .int .i64 x0_3, .int .i64 x0_4]] := HT
  clear HT
  replace H := H.newX 29 #[.int .i64 x1_0, .int .i64 x1_1, .int .i64 x1_2, (.slice A5_3' l1_3.length c5_3'), (.slice A5_4' l1_4.length c5_4'), .int .i64 x1_5, .int .i64 x1_6, (.slice A5_7' l1_7.length c5_7'), (.slice A5_8' l1_8.length c5_8'), (.slice A5_9' l1_9.length c5_9')]
  replace H : InvF W _ [segX 29 w5.heap.size [.int .i64 x1_0, .int .i64 x1_1, .int .i64 x1_2, (.slice A5_3' l1_3.length c5_3'), (.slice A5_4' l1_4.length c5_4'), .int .i64 x1_5, .int .i64 x1_6, (.slice A5_7' l1_7.length c5_7'), (.slice A5_8' l1_8.length c5_8'), (.slice A5_9' l1_9.length c5_9')], segB 5 (.slice A5_3' l1_3.length c5_3') l1_3, segB 5 (.slice A5_4' l1_4.length c5_4') l1_4, segB 5 (.slice A5_7' l1_7.length c5_7') l1_7, segB 5 (.slice A5_8' l1_8.length c5_8') l1_8, segS 24 5 (.slice A5_9' l1_9.length c5_9') vs5_9 l1_9, segX 42 (W.heap.size + 1 + 1) [.int .i64 x2_0, .int .i64 x2_1, .int .i64 x2_2, (.slice A2_3 l2_3.length c2_3), (.slice A2_4 l2_4.length c2_4), .int .i64 x2_5, .int .i64 x2_6, (.slice A2_7 l2_7.length c2_7), (.slice A2_8 l2_8.length c2_8), (.slice A2_9 l2_9.length c2_9)], segX 42 (W.heap.size + 1) [.int .i64 x1_0, .int .i64 x1_1, .int .i64 x1_2, (.slice A1_3 l1_3.length c1_3), (.slice A1_4 l1_4.length c1_4), .int .i64 x1_5, .int .i64 x1_6, (.slice A1_7 l1_7.length c1_7), (.slice A1_8 l1_8.length c1_8), (.slice A1_9 l1_9.length c1_9)], segX 23 W.heap.size [.int .i64 x0_0, .int .i64 x0_1, .int .i64 x0_2, .int .i64 x0_3, .int .i64 x0_4]] := H
  clear b25_0 b25_1 b25_2 b25_3 b25_4 b25_5 b25_6 b25_7 b25_8 b25_9 b26_0 b26_1 b26_2 b26_3 b26_4 b26_5 b26_6 b26_7 b26_8 b26_9 b27_0 b27_1 b27_2 b27_3 b27_4
  obtain ⟨b28_0, b28_1, b28_2, b28_3, b28_4, b28_5, b28_6, b28_7, b28_8, b28_9⟩ := H.c10 (.head _)
  obtain ⟨b29_0, b29_1, b29_2, b29_3, b29_4, b29_5, b29_6, b29_7, b29_8, b29_9⟩ := H.c10 (.tail _ (.tail _ (.tail _ (.tail _ (.tail _ (.tail _ (.head _)))))))
  obtain ⟨b30_0, b30_1, b30_2, b30_3, b30_4, b30_5, b30_6, b30_7, b30_8, b30_9⟩ := H.c10 (.tail _ (.tail _ (.tail _ (.tail _ (.tail _ (.tail _ (.tail _ (.head _))))))))
  obtain ⟨b31_0, b31_1, b31_2, b31_3, b31_4⟩ := H.c5 (.tail _ (.tail _ (.tail _ (.tail _ (.tail _ (.tail _ (.tail _ (.tail _ (.head _)))))))))
  go_wp2_with fail
  refine (toHead_any x2_0 x2_1 x2_2 x2_5 x2_6 _ _ _ _ _ l2_3 l2_4 l2_7 l2_8 l2_9 _ (hs2_3.up H.bel) (hs2_4.up H.bel) (hs2_7.up H.bel) (hs2_8.up H.bel) (hs2_9.up H.bel) hL2_3 hL2_4 hL2_7 hL2_8 hL2_9 hN2_9).mono ?_
  rintro e w6 ⟨u6_3, u6_4, u6_7, u6_8, u6_9, vs6_9, rfl, hv6_9, K⟩
  have HV6_9 := Lib.hid hv6_9
  obtain ⟨A6_3', c6_3', rfl⟩ := K.openB' (.head _)
  obtain ⟨A6_4', c6_4', rfl⟩ := K.openB' (.tail _ (.head _))
  obtain ⟨A6_7', c6_7', rfl⟩ := K.openB' (.tail _ (.tail _ (.head _)))
  obtain ⟨A6_8', c6_8', rfl⟩ := K.openB' (.tail _ (.tail _ (.tail _ (.head _))))
  obtain ⟨A6_9', c6_9', rfl⟩ := K.openS hv6_9 (.tail _ (.tail _ (.tail _ (.tail _ (.head _)))))
  clear hv6_9
  have HT := H.moreF K
  clear K
  replace H : InvF W w6 [segB 5 (.slice A6_3' l2_3.length c6_3') l2_3, segB 5 (.slice A6_4' l2_4.length c6_4') l2_4, segB 5 (.slice A6_7' l2_7.length c6_7') l2_7, segB 5 (.slice A6_8' l2_8.length c6_8') l2_8, segS 24 5 (.slice A6_9' l2_9.length c6_9') vs6_9 l2_9, segX 29 w5.heap.size [.int .i64 x1_0, .int .i64 x1_1, .int .i64 x1_2, (.slice A5_3' l1_3.length c5_3'), (.slice A5_4' l1_4.length c5_4'), .int .i64 x1_5, .int .i64 x1_6, (.slice A5_7' l1_7.length c5_7'), (.slice A5_8' l1_8.length c5_8'), (.slice A5_9' l1_9.length c5_9')], segB 5 (.slice A5_3' l1_3.length c5_3') l1_3, segB 5 (.slice A5_4' l1_4.length c5_4') l1_4, segB 5 (.slice A5_7' l1_7.length c5_7') l1_7, segB 5 (.slice A5_8' l1_8.length c5_8') l1_8, segS 24 5 (.slice A5_9' l1_9.length c5_9') vs5_9 l1_9, segX 42 (W.heap.size + 1 + 1) [.int .i64 x2_0, .int .i64 x2_1, .int .i64 x2_2, (.slice A2_3 l2_3.length c2_3), (.slice A2_4 l2_4.length c2_4), .int .i64 x2_5, .int .i64 x2_6, (.slice A2_7 l2_7.length c2_7), (.slice A2_8 l2_8.length c2_8), (.slice A2_9 l2_9.length c2_9)], segX 42 (W.heap.size + 1) [.int .i64 x1_0, .int .i64 x1_1, .int .i64 x1_2, (.slice A1_3 l1_3.length c1_3), (.slice A1_4 l1_4.length c1_4), .int .i64 x1_5, .int .i64 x1_6, (.slice A1_7 l1_7.length c1_7), (.slice A1_8 l1_8.length c1_8), (.slice A1_9 l1_9.length c1_9)], segX 23 W.heap.size [.int .i64 x0_0, .int .i64 x0_1, .int .i64 x0_2, .int .i64 x0_3, .int .i64 x0_4]] := HT
  clear HT
  replace H := H.newX 29 #[.int .i64 x2_0, .int .i64 x2_1, .int .i64 x2_2, (.slice A6_3' l2_3.length c6_3'), (.slice A6_4' l2_4.length c6_4'), .int .i64 x2_5, .int .i64 x2_6, (.slice A6_7' l2_7.length c6_7'), (.slice A6_8' l2_8.length c6_8'), (.slice A6_9' l2_9.length c6_9')]
  replace H : InvF W _ [segX 29 w6.heap.size [.int .i64 x2_0, .int .i64 x2_1, .int .i64 x2_2, (.slice A6_3' l2_3.length c6_3'), (.slice A6_4' l2_4.length c6_4'), .int .i64 x2_5, .int .i64 x2_6, (.slice A6_7' l2_7.length c6_7'), (.slice A6_8' l2_8.length c6_8'), (.slice A6_9' l2_9.length c6_9')], segB 5 (.slice A6_3' l2_3.length c6_3') l2_3, segB 5 (.slice A6_4' l2_4.length c6_4') l2_4, segB 5 (.slice A6_7' l2_7.length c6_7') l2_7, segB 5 (.slice A6_8' l2_8.length c6_8') l2_8, segS 24 5 (.slice A6_9' l2_9.length c6_9') vs6_9 l2_9, segX 29 w5.heap.size [.int .i64 x1_0, .int .i64 x1_1, .int .i64 x1_2, (.slice A5_3' l1_3.length c5_3'), (.slice A5_4' l1_4.length c5_4'), .int .i64 x1_5, .int .i64 x1_6, (.slice A5_7' l1_7.length c5_7'), (.slice A5_8' l1_8.length c5_8'), (.slice A5_9' l1_9.length c5_9')], segB 5 (.slice A5_3' l1_3.length c5_3') l1_3, segB 5 (.slice A5_4' l1_4.length c5_4') l1_4, segB 5 (.slice A5_7' l1_7.length c5_7') l1_7, segB 5 (.slice A5_8' l1_8.length c5_8') l1_8, segS 24 5 (.slice A5_9' l1_9.length c5_9') vs5_9 l1_9, segX 42 (W.heap.size + 1 + 1) [.int .i64 x2_0, .int .i64 x2_1, .int .i64 x2_2, (.slice A2_3 l2_3.length c2_3), (.slice A2_4 l2_4.length c2_4), .int .i64 x2_5, .int .i64 x2_6, (.slice A2_7 l2_7.length c2_7), (.slice A2_8 l2_8.length c2_8), (.slice A2_9 l2_9.length c2_9)], segX 42 (W.heap.size + 1) [.int .i64 x1_0, .int .i64 x1_1, .int .i64 x1_2, (.slice A1_3 l1_3.length c1_3), (.slice A1_4 l1_4.length c1_4), .int .i64 x1_5, .int .i64 x1_6, (.slice A1_7 l1_7.length c1_7), (.slice A1_8 l1_8.length c1_8), (.slice A1_9 l1_9.length c1_9)], segX 23 W.heap.size [.int .i64 x0_0, .int .i64 x0_1, .int .i64 x0_2, .int .i64 x0_3, .int .i64 x0_4]] := H
  clear b28_0 b28_1 b28_2 b28_3 b28_4 b28_5 b28_6 b28_7 b28_8 b28_9 b29_0 b29_1 b29_2 b29_3 b29_4 b29_5 b29_6 b29_7 b29_8 b29_9 b30_0 b30_1 b30_2 b30_3 b30_4 b30_5 b30_6 b30_7 b30_8 b30_9 b31_0 b31_1 b31_2 b31_3 b31_4
  obtain ⟨b32_0, b32_1, b32_2, b32_3, b32_4, b32_5, b32_6, b32_7, b32_8, b32_9⟩ := H.c10 (.head _)
  obtain ⟨b33_0, b33_1, b33_2, b33_3, b33_4, b33_5, b33_6, b33_7, b33_8, b33_9⟩ := H.c10 (.tail _ (.tail _ (.tail _ (.tail _ (.tail _ (.tail _ (.head _)))))))
  obtain ⟨b34_0, b34_1, b34_2, b34_3, b34_4, b34_5, b34_6, b34_7, b34_8, b34_9⟩ := H.c10 (.tail _ (.tail _ (.tail _ (.tail _ (.tail _ (.tail _ (.tail _ (.tail _ (.tail _ (.tail _ (.tail _ (.tail _ (.head _)))))))))))))
  obtain ⟨b35_0, b35_1, b35_2, b35_3, b35_4, b35_5, b35_6, b35_7, b35_8, b35_9⟩ := H.c10 (.tail _ (.tail _ (.tail _ (.tail _ (.tail _ (.tail _ (.tail _ (.tail _ (.tail _ (.tail _ (.tail _ (.tail _ (.tail _ (.head _))))))))))))))
  obtain ⟨b36_0, b36_1, b36_2, b36_3, b36_4⟩ := H.c5 (.tail _ (.tail _ (.tail _ (.tail _ (.tail _ (.tail _ (.tail _ (.tail _ (.tail _ (.tail _ (.tail _ (.tail _ (.tail _ (.tail _ (.head _)))))))))))))))
  have HE0 := Lib.hid (H.drewN 1)
  have HK0 := Lib.hid (ten (HE0.out.c5 (.tail _ (.tail _ (.tail _ (.tail _ (.tail _ (.tail _ (.tail _ (.tail _ (.tail _ (.tail _ (.tail _ (.tail _ (.tail _ (.tail _ (.head _)))))))))))))))) (ten10 (HE0.out.k10 (.tail _ (.tail _ (.tail _ (.tail _ (.tail _ (.tail _ (.head _)))))))) (HE0.out.k10 (.head _))))
  go_wp2_with fail
  go_region_held3 (fun w' => w'.cell? ⟨W.heap.size, 0, none⟩ = some (.int .i64 x0_0) ∧ w'.cell? ⟨W.heap.size, 1, none⟩ = some (.int .i64 x0_1) ∧ w'.cell? ⟨W.heap.size, 2, none⟩ = some (.int .i64 x0_2) ∧ w'.cell? ⟨W.heap.size, 3, none⟩ = some (.int .i64 x0_3) ∧ w'.cell? ⟨W.heap.size, 4, none⟩ = some (.int .i64 x0_4) ∧ w'.cell? ⟨w5.heap.size, 0, none⟩ = some (.int .i64 x1_0) ∧ w'.cell? ⟨w5.heap.size, 1, none⟩ = some (.int .i64 x1_1) ∧ w'.cell? ⟨w5.heap.size, 2, none⟩ = some (.int .i64 x1_2) ∧ w'.cell? ⟨w5.heap.size, 3, none⟩ = some (.slice A5_3' l1_3.length c5_3') ∧ w'.cell? ⟨w5.heap.size, 4, none⟩ = some (.slice A5_4' l1_4.length c5_4') ∧ w'.cell? ⟨w5.heap.size, 5, none⟩ = some (.int .i64 x1_5) ∧ w'.cell? ⟨w5.heap.size, 6, none⟩ = some (.int .i64 x1_6) ∧ w'.cell? ⟨w5.heap.size, 7, none⟩ = some (.slice A5_7' l1_7.length c5_7') ∧ w'.cell? ⟨w5.heap.size, 8, none⟩ = some (.slice A5_8' l1_8.length c5_8') ∧ w'.cell? ⟨w5.heap.size, 9, none⟩ = some (.slice A5_9' l1_9.length c5_9') ∧ w'.cell? ⟨w6.heap.size, 0, none⟩ = some (.int .i64 x2_0) ∧ w'.cell? ⟨w6.heap.size, 1, none⟩ = some (.int .i64 x2_1) ∧ w'.cell? ⟨w6.heap.size, 2, none⟩ = some (.int .i64 x2_2) ∧ w'.cell? ⟨w6.heap.size, 3, none⟩ = some (.slice A6_3' l2_3.length c6_3') ∧ w'.cell? ⟨w6.heap.size, 4, none⟩ = some (.slice A6_4' l2_4.length c6_4') ∧ w'.cell? ⟨w6.heap.size, 5, none⟩ = some (.int .i64 x2_5) ∧ w'.cell? ⟨w6.heap.size, 6, none⟩ = some (.int .i64 x2_6) ∧ w'.cell? ⟨w6.heap.size, 7, none⟩ = some (.slice A6_7' l2_7.length c6_7') ∧ w'.cell? ⟨w6.heap.size, 8, none⟩ = some (.slice A6_8' l2_8.length c6_8') ∧ w'.cell? ⟨w6.heap.size, 9, none⟩ = some (.slice A6_9' l2_9.length c6_9'))
    (first
      | exact HK0.out
      | exact HK1.out
      | exact HK2.out)
    (first
      | (go_at_call_of 7 (Value.int IntKind.i64 x0_0); refine (toLimits_any x0_0 x0_1 x0_2 x0_3 x0_4   _  ).mono ?_; rintro e w7 ⟨rfl, hb⟩; have HX := HE0.out.up hb; clear hb; have HE1 := Lib.hid HX; clear HX; have HK1 := Lib.hid (ten (HE1.out.c5 (.tail _ (.tail _ (.tail _ (.tail _ (.tail _ (.tail _ (.tail _ (.tail _ (.tail _ (.tail _ (.tail _ (.tail _ (.tail _ (.tail _ (.head _)))))))))))))))) (ten10 (HE1.out.k10 (.tail _ (.tail _ (.tail _ (.tail _ (.tail _ (.tail _ (.head _)))))))) (HE1.out.k10 (.head _)))))
      | (go_at_call 21; refine (implLinks_any x0_0 x0_1 x0_2 x0_3 x0_4 x1_0 x1_1 x1_2 x1_5 x1_6 x2_0 x2_1 x2_2 x2_5 x2_6 _ _ _ _ _ _ _ _ _ _ l1_3 l1_4 l1_7 l1_8 l1_9 l2_3 l2_4 l2_7 l2_8 l2_9 _  (HE1.out.slB 5 (.tail _ (.tail _ (.tail _ (.tail _ (.tail _ (.tail _ (.tail _ (.head _))))))))) (HE1.out.slB 5 (.tail _ (.tail _ (.tail _ (.tail _ (.tail _ (.tail _ (.tail _ (.tail _ (.head _)))))))))) (HE1.out.slB 5 (.tail _ (.tail _ (.tail _ (.tail _ (.tail _ (.tail _ (.tail _ (.tail _ (.tail _ (.head _))))))))))) (HE1.out.slB 5 (.tail _ (.tail _ (.tail _ (.tail _ (.tail _ (.tail _ (.tail _ (.tail _ (.tail _ (.tail _ (.head _)))))))))))) (HE1.out.slS 24 5 HV5_9.out (.tail _ (.tail _ (.tail _ (.tail _ (.tail _ (.tail _ (.tail _ (.tail _ (.tail _ (.tail _ (.tail _ (.head _))))))))))))) (HE1.out.slB 5 (.tail _ (.head _))) (HE1.out.slB 5 (.tail _ (.tail _ (.head _)))) (HE1.out.slB 5 (.tail _ (.tail _ (.tail _ (.head _))))) (HE1.out.slB 5 (.tail _ (.tail _ (.tail _ (.tail _ (.head _)))))) (HE1.out.slS 24 5 HV6_9.out (.tail _ (.tail _ (.tail _ (.tail _ (.tail _ (.head _))))))) (by omega) (by omega) (hgI.up HE1.out.bel) (hg.up HE1.out.bel)).mono ?_; rw [← HB0.out]; rintro e w8 ⟨rfl, hb⟩; have HX := HE1.out.up hb; clear hb; have HE2 := Lib.hid HX; clear HX; have HK2 := Lib.hid (ten (HE2.out.c5 (.tail _ (.tail _ (.tail _ (.tail _ (.tail _ (.tail _ (.tail _ (.tail _ (.tail _ (.tail _ (.tail _ (.tail _ (.tail _ (.tail _ (.head _)))))))))))))))) (ten10 (HE2.out.k10 (.tail _ (.tail _ (.tail _ (.tail _ (.tail _ (.tail _ (.head _)))))))) (HE2.out.k10 (.head _))))))
  clear H b32_0 b32_1 b32_2 b32_3 b32_4 b32_5 b32_6 b32_7 b32_8 b32_9 b33_0 b33_1 b33_2 b33_3 b33_4 b33_5 b33_6 b33_7 b33_8 b33_9 b34_0 b34_1 b34_2 b34_3 b34_4 b34_5 b34_6 b34_7 b34_8 b34_9 b35_0 b35_1 b35_2 b35_3 b35_4 b35_5 b35_6 b35_7 b35_8 b35_9 b36_0 b36_1 b36_2 b36_3 b36_4
  have H := HE2.out
  clear HE0 HK0 HE1 HK1 HE2 HK2
  obtain ⟨b37_0, b37_1, b37_2, b37_3, b37_4, b37_5, b37_6, b37_7, b37_8, b37_9⟩ := H.c10 (.head _)
  obtain ⟨b38_0, b38_1, b38_2, b38_3, b38_4, b38_5, b38_6, b38_7, b38_8, b38_9⟩ := H.c10 (.tail _ (.tail _ (.tail _ (.tail _ (.tail _ (.tail _ (.head _)))))))
  obtain ⟨b39_0, b39_1, b39_2, b39_3, b39_4, b39_5, b39_6, b39_7, b39_8, b39_9⟩ := H.c10 (.tail _ (.tail _ (.tail _ (.tail _ (.tail _ (.tail _ (.tail _ (.tail _ (.tail _ (.tail _ (.tail _ (.tail _ (.head _)))))))))))))
  obtain ⟨b40_0, b40_1, b40_2, b40_3, b40_4, b40_5, b40_6, b40_7, b40_8, b40_9⟩ := H.c10 (.tail _ (.tail _ (.tail _ (.tail _ (.tail _ (.tail _ (.tail _ (.tail _ (.tail _ (.tail _ (.tail _ (.tail _ (.tail _ (.head _))))))))))))))
  obtain ⟨b41_0, b41_1, b41_2, b41_3, b41_4⟩ := H.c5 (.tail _ (.tail _ (.tail _ (.tail _ (.tail _ (.tail _ (.tail _ (.tail _ (.tail _ (.tail _ (.tail _ (.tail _ (.tail _ (.tail _ (.head _)))))))))))))))
  have HE0 := Lib.hid (H.drewN 1)
  have HK0 := Lib.hid (ten10 (HE0.out.k10 (.tail _ (.tail _ (.tail _ (.tail _ (.tail _ (.tail _ (.head _)))))))) (HE0.out.k10 (.tail _ (.tail _ (.tail _ (.tail _ (.tail _ (.tail _ (.tail _ (.tail _ (.tail _ (.tail _ (.tail _ (.tail _ (.tail _ (.head _))))))))))))))))
  go_wp2_with fail
  go_region_held3 (fun w' => w'.cell? ⟨w5.heap.size, 0, none⟩ = some (.int .i64 x1_0) ∧ w'.cell? ⟨w5.heap.size, 1, none⟩ = some (.int .i64 x1_1) ∧ w'.cell? ⟨w5.heap.size, 2, none⟩ = some (.int .i64 x1_2) ∧ w'.cell? ⟨w5.heap.size, 3, none⟩ = some (.slice A5_3' l1_3.length c5_3') ∧ w'.cell? ⟨w5.heap.size, 4, none⟩ = some (.slice A5_4' l1_4.length c5_4') ∧ w'.cell? ⟨w5.heap.size, 5, none⟩ = some (.int .i64 x1_5) ∧ w'.cell? ⟨w5.heap.size, 6, none⟩ = some (.int .i64 x1_6) ∧ w'.cell? ⟨w5.heap.size, 7, none⟩ = some (.slice A5_7' l1_7.length c5_7') ∧ w'.cell? ⟨w5.heap.size, 8, none⟩ = some (.slice A5_8' l1_8.length c5_8') ∧ w'.cell? ⟨w5.heap.size, 9, none⟩ = some (.slice A5_9' l1_9.length c5_9') ∧ w'.cell? ⟨W.heap.size + 1, 0, none⟩ = some (.int .i64 x1_0) ∧ w'.cell? ⟨W.heap.size + 1, 1, none⟩ = some (.int .i64 x1_1) ∧ w'.cell? ⟨W.heap.size + 1, 2, none⟩ = some (.int .i64 x1_2) ∧ w'.cell? ⟨W.heap.size + 1, 3, none⟩ = some (.slice A1_3 l1_3.length c1_3) ∧ w'.cell? ⟨W.heap.size + 1, 4, none⟩ = some (.slice A1_4 l1_4.length c1_4) ∧ w'.cell? ⟨W.heap.size + 1, 5, none⟩ = some (.int .i64 x1_5) ∧ w'.cell? ⟨W.heap.size + 1, 6, none⟩ = some (.int .i64 x1_6) ∧ w'.cell? ⟨W.heap.size + 1, 7, none⟩ = some (.slice A1_7 l1_7.length c1_7) ∧ w'.cell? ⟨W.heap.size + 1, 8, none⟩ = some (.slice A1_8 l1_8.length c1_8) ∧ w'.cell? ⟨W.heap.size + 1, 9, none⟩ = some (.slice A1_9 l1_9.length c1_9))
    (first
      | exact HK0.out
      | exact HK1.out
      | exact HK2.out)
    (first
      | (go_at_call_of 17 (Value.int IntKind.i64 x1_0); refine (toHead_any x1_0 x1_1 x1_2 x1_5 x1_6 _ _ _ _ _ l1_3 l1_4 l1_7 l1_8 l1_9 _ (hs1_3.up HE0.out.bel) (hs1_4.up HE0.out.bel) (hs1_7.up HE0.out.bel) (hs1_8.up HE0.out.bel) (hs1_9.up HE0.out.bel) hL1_3 hL1_4 hL1_7 hL1_8 hL1_9 hN1_9).mono ?_; rintro e w9 ⟨u9_3, u9_4, u9_7, u9_8, u9_9, vs9_9, rfl, hv9_9, K⟩; have HV9_9 := Lib.hid hv9_9; obtain ⟨A9_3', c9_3', rfl⟩ := K.openB' (.head _); obtain ⟨A9_4', c9_4', rfl⟩ := K.openB' (.tail _ (.head _)); obtain ⟨A9_7', c9_7', rfl⟩ := K.openB' (.tail _ (.tail _ (.head _))); obtain ⟨A9_8', c9_8', rfl⟩ := K.openB' (.tail _ (.tail _ (.tail _ (.head _)))); obtain ⟨A9_9', c9_9', rfl⟩ := K.openS hv9_9 (.tail _ (.tail _ (.tail _ (.tail _ (.head _))))); clear hv9_9; have HT := HE0.out.moreF K; clear K; have HX : InvF W w9 [segB 5 (.slice A9_3' l1_3.length c9_3') l1_3, segB 5 (.slice A9_4' l1_4.length c9_4') l1_4, segB 5 (.slice A9_7' l1_7.length c9_7') l1_7, segB 5 (.slice A9_8' l1_8.length c9_8') l1_8, segS 24 5 (.slice A9_9' l1_9.length c9_9') vs9_9 l1_9, segX 29 w6.heap.size [.int .i64 x2_0, .int .i64 x2_1, .int .i64 x2_2, (.slice A6_3' l2_3.length c6_3'), (.slice A6_4' l2_4.length c6_4'), .int .i64 x2_5, .int .i64 x2_6, (.slice A6_7' l2_7.length c6_7'), (.slice A6_8' l2_8.length c6_8'), (.slice A6_9' l2_9.length c6_9')], segB 5 (.slice A6_3' l2_3.length c6_3') l2_3, segB 5 (.slice A6_4' l2_4.length c6_4') l2_4, segB 5 (.slice A6_7' l2_7.length c6_7') l2_7, segB 5 (.slice A6_8' l2_8.length c6_8') l2_8, segS 24 5 (.slice A6_9' l2_9.length c6_9') vs6_9 l2_9, segX 29 w5.heap.size [.int .i64 x1_0, .int .i64 x1_1, .int .i64 x1_2, (.slice A5_3' l1_3.length c5_3'), (.slice A5_4' l1_4.length c5_4'), .int .i64 x1_5, .int .i64 x1_6, (.slice A5_7' l1_7.length c5_7'), (.slice A5_8' l1_8.length c5_8'), (.slice A5_9' l1_9.length c5_9')], segB 5 (.slice A5_3' l1_3.length c5_3') l1_3, segB 5 (.slice A5_4' l1_4.length c5_4') l1_4, segB 5 (.slice A5_7' l1_7.length c5_7') l1_7, segB 5 (.slice A5_8' l1_8.length c5_8') l1_8, segS 24 5 (.slice A5_9' l1_9.length c5_9') vs5_9 l1_9, segX 42 (W.heap.size + 1 + 1) [.int .i64 x2_0, .int .i64 x2_1, .int .i64 x2_2, (.slice A2_3 l2_3.length c2_3), (.slice A2_4 l2_4.length c2_4), .int .i64 x2_5, .int .i64 x2_6, (.slice A2_7 l2_7.length c2_7), (.slice A2_8 l2_8.length c2_8), (.slice A2_9 l2_9.length c2_9)], segX 42 (W.heap.size + 1) [.int .i64 x1_0, .int .i64 x1_1, .int .i64 x1_2, (.slice A1_3 l1_3.length c1_3), (.slice A1_4 l1_4.length c1_4), .int .i64 x1_5, .int .i64 x1_6, (.slice A1_7 l1_7.length c1_7), (.slice A1_8 l1_8.length c1_8), (.slice A1_9 l1_9.length c1_9)], segX 23 W.heap.size [.int .i64 x0_0, .int .i64 x0_1, .int .i64 x0_2, .int .i64 x0_3, .int .i64 x0_4]] := HT; clear HT; have HE1 := Lib.hid HX; clear HX; have HK1 := Lib.hid (ten10 (HE1.out.k10 (.tail _ (.tail _ (.tail _ (.tail _ (.tail _ (.tail _ (.tail _ (.tail _ (.tail _ (.tail _ (.tail _ (.head _))))))))))))) (HE1.out.k10 (.tail _ (.tail _ (.tail _ (.tail _ (.tail _ (.tail _ (.tail _ (.tail _ (.tail _ (.tail _ (.tail _ (.tail _ (.tail _ (.tail _ (.tail _ (.tail _ (.tail _ (.tail _ (.head _))))))))))))))))))))))
      | (go_at_call 10; refine (eqHead_any x1_0 x1_1 x1_2 x1_5 x1_6 _ _ _ _ _ _ _ _ _ _ l1_3 l1_4 l1_7 l1_8 l1_9 _ (HE1.out.slB 5 (.tail _ (.tail _ (.tail _ (.tail _ (.tail _ (.tail _ (.tail _ (.tail _ (.tail _ (.tail _ (.tail _ (.tail _ (.head _)))))))))))))) (HE1.out.slB 5 (.tail _ (.tail _ (.tail _ (.tail _ (.tail _ (.tail _ (.tail _ (.tail _ (.tail _ (.tail _ (.tail _ (.tail _ (.tail _ (.head _))))))))))))))) (HE1.out.slB 5 (.tail _ (.tail _ (.tail _ (.tail _ (.tail _ (.tail _ (.tail _ (.tail _ (.tail _ (.tail _ (.tail _ (.tail _ (.tail _ (.tail _ (.head _)))))))))))))))) (HE1.out.slB 5 (.tail _ (.tail _ (.tail _ (.tail _ (.tail _ (.tail _ (.tail _ (.tail _ (.tail _ (.tail _ (.tail _ (.tail _ (.tail _ (.tail _ (.tail _ (.head _))))))))))))))))) (HE1.out.slS 24 5 HV5_9.out (.tail _ (.tail _ (.tail _ (.tail _ (.tail _ (.tail _ (.tail _ (.tail _ (.tail _ (.tail _ (.tail _ (.tail _ (.tail _ (.tail _ (.tail _ (.tail _ (.head _)))))))))))))))))) (HE1.out.slB 5 (.head _)) (HE1.out.slB 5 (.tail _ (.head _))) (HE1.out.slB 5 (.tail _ (.tail _ (.head _)))) (HE1.out.slB 5 (.tail _ (.tail _ (.tail _ (.head _))))) (HE1.out.slS 24 5 HV9_9.out (.tail _ (.tail _ (.tail _ (.tail _ (.head _))))))).mono ?_; rintro e w10 ⟨rfl, hb⟩; have HX := HE1.out.up hb; clear hb; have HE2 := Lib.hid HX; clear HX; have HK2 := Lib.hid (ten10 (HE2.out.k10 (.tail _ (.tail _ (.tail _ (.tail _ (.tail _ (.tail _ (.tail _ (.tail _ (.tail _ (.tail _ (.tail _ (.head _))))))))))))) (HE2.out.k10 (.tail _ (.tail _ (.tail _ (.tail _ (.tail _ (.tail _ (.tail _ (.tail _ (.tail _ (.tail _ (.tail _ (.tail _ (.tail _ (.tail _ (.tail _ (.tail _ (.tail _ (.tail _ (.head _)))))))))))))))))))))))
  clear H b37_0 b37_1 b37_2 b37_3 b37_4 b37_5 b37_6 b37_7 b37_8 b37_9 b38_0 b38_1 b38_2 b38_3 b38_4 b38_5 b38_6 b38_7 b38_8 b38_9 b39_0 b39_1 b39_2 b39_3 b39_4 b39_5 b39_6 b39_7 b39_8 b39_9 b40_0 b40_1 b40_2 b40_3 b40_4 b40_5 b40_6 b40_7 b40_8 b40_9 b41_0 b41_1 b41_2 b41_3 b41_4
  have H := HE2.out
  clear HE0 HK0 HE1 HK1 HE2 HK2
  replace H := H.sub (qs := [segX 29 w6.heap.size [.int .i64 x2_0, .int .i64 x2_1, .int .i64 x2_2, (.slice A6_3' l2_3.length c6_3'), (.slice A6_4' l2_4.length c6_4'), .int .i64 x2_5, .int .i64 x2_6, (.slice A6_7' l2_7.length c6_7'), (.slice A6_8' l2_8.length c6_8'), (.slice A6_9' l2_9.length c6_9')], segB 5 (.slice A6_3' l2_3.length c6_3') l2_3, segB 5 (.slice A6_4' l2_4.length c6_4') l2_4, segB 5 (.slice A6_7' l2_7.length c6_7') l2_7, segB 5 (.slice A6_8' l2_8.length c6_8') l2_8, segS 24 5 (.slice A6_9' l2_9.length c6_9') vs6_9 l2_9, segX 29 w5.heap.size [.int .i64 x1_0, .int .i64 x1_1, .int .i64 x1_2, (.slice A5_3' l1_3.length c5_3'), (.slice A5_4' l1_4.length c5_4'), .int .i64 x1_5, .int .i64 x1_6, (.slice A5_7' l1_7.length c5_7'), (.slice A5_8' l1_8.length c5_8'), (.slice A5_9' l1_9.length c5_9')], segB 5 (.slice A5_3' l1_3.length c5_3') l1_3, segB 5 (.slice A5_4' l1_4.length c5_4') l1_4, segB 5 (.slice A5_7' l1_7.length c5_7') l1_7, segB 5 (.slice A5_8' l1_8.length c5_8') l1_8, segS 24 5 (.slice A5_9' l1_9.length c5_9') vs5_9 l1_9, segX 42 (W.heap.size + 1 + 1) [.int .i64 x2_0, .int .i64 x2_1, .int .i64 x2_2, (.slice A2_3 l2_3.length c2_3), (.slice A2_4 l2_4.length c2_4), .int .i64 x2_5, .int .i64 x2_6, (.slice A2_7 l2_7.length c2_7), (.slice A2_8 l2_8.length c2_8), (.slice A2_9 l2_9.length c2_9)], segX 42 (W.heap.size + 1) [.int .i64 x1_0, .int .i64 x1_1, .int .i64 x1_2, (.slice A1_3 l1_3.length c1_3), (.slice A1_4 l1_4.length c1_4), .int .i64 x1_5, .int .i64 x1_6, (.slice A1_7 l1_7.length c1_7), (.slice A1_8 l1_8.length c1_8), (.slice A1_9 l1_9.length c1_9)], segX 23 W.heap.size [.int .i64 x0_0, .int .i64 x0_1, .int .i64 x0_2, .int .i64 x0_3, .int .i64 x0_4]]) (.cons _ (.cons _ (.cons _ (.cons _ (.cons _ (.cons_cons _ (.cons_cons _ (.cons_cons _ (.cons_cons _ (.cons_cons _ (.cons_cons _ (.cons_cons _ (.cons_cons _ (.cons_cons _ (.cons_cons _ (.cons_cons _ (.cons_cons _ (.cons_cons _ (.cons_cons _ (.cons_cons _ .slnil))))))))))))))))))))
  obtain ⟨b42_0, b42_1, b42_2, b42_3, b42_4, b42_5, b42_6, b42_7, b42_8, b42_9⟩ := H.c10 (.head _)
  obtain ⟨b43_0, b43_1, b43_2, b43_3, b43_4, b43_5, b43_6, b43_7, b43_8, b43_9⟩ := H.c10 (.tail _ (.tail _ (.tail _ (.tail _ (.tail _ (.tail _ (.head _)))))))
  obtain ⟨b44_0, b44_1, b44_2, b44_3, b44_4, b44_5, b44_6, b44_7, b44_8, b44_9⟩ := H.c10 (.tail _ (.tail _ (.tail _ (.tail _ (.tail _ (.tail _ (.tail _ (.tail _ (.tail _ (.tail _ (.tail _ (.tail _ (.head _)))))))))))))
  obtain ⟨b45_0, b45_1, b45_2, b45_3, b45_4, b45_5, b45_6, b45_7, b45_8, b45_9⟩ := H.c10 (.tail _ (.tail _ (.tail _ (.tail _ (.tail _ (.tail _ (.tail _ (.tail _ (.tail _ (.tail _ (.tail _ (.tail _ (.tail _ (.head _))))))))))))))
  obtain ⟨b46_0, b46_1, b46_2, b46_3, b46_4⟩ := H.c5 (.tail _ (.tail _ (.tail _ (.tail _ (.tail _ (.tail _ (.tail _ (.tail _ (.tail _ (.tail _ (.tail _ (.tail _ (.tail _ (.tail _ (.head _)))))))))))))))
  have HE0 := Lib.hid (H.drewN 1)
  have HK0 := Lib.hid (ten10 (HE0.out.k10 (.head _)) (HE0.out.k10 (.tail _ (.tail _ (.tail _ (.tail _ (.tail _ (.tail _ (.tail _ (.tail _ (.tail _ (.tail _ (.tail _ (.tail _ (.head _)))))))))))))))
  go_wp2_with fail
  go_region_held3 (fun w' => w'.cell? ⟨w6.heap.size, 0, none⟩ = some (.int .i64 x2_0) ∧ w'.cell? ⟨w6.heap.size, 1, none⟩ = some (.int .i64 x2_1) ∧ w'.cell? ⟨w6.heap.size, 2, none⟩ = some (.int .i64 x2_2) ∧ w'.cell? ⟨w6.heap.size, 3, none⟩ = some (.slice A6_3' l2_3.length c6_3') ∧ w'.cell? ⟨w6.heap.size, 4, none⟩ = some (.slice A6_4' l2_4.length c6_4') ∧ w'.cell? ⟨w6.heap.size, 5, none⟩ = some (.int .i64 x2_5) ∧ w'.cell? ⟨w6.heap.size, 6, none⟩ = some (.int .i64 x2_6) ∧ w'.cell? ⟨w6.heap.size, 7, none⟩ = some (.slice A6_7' l2_7.length c6_7') ∧ w'.cell? ⟨w6.heap.size, 8, none⟩ = some (.slice A6_8' l2_8.length c6_8') ∧ w'.cell? ⟨w6.heap.size, 9, none⟩ = some (.slice A6_9' l2_9.length c6_9') ∧ w'.cell? ⟨W.heap.size + 1 + 1, 0, none⟩ = some (.int .i64 x2_0) ∧ w'.cell? ⟨W.heap.size + 1 + 1, 1, none⟩ = some (.int .i64 x2_1) ∧ w'.cell? ⟨W.heap.size + 1 + 1, 2, none⟩ = some (.int .i64 x2_2) ∧ w'.cell? ⟨W.heap.size + 1 + 1, 3, none⟩ = some (.slice A2_3 l2_3.length c2_3) ∧ w'.cell? ⟨W.heap.size + 1 + 1, 4, none⟩ = some (.slice A2_4 l2_4.length c2_4) ∧ w'.cell? ⟨W.heap.size + 1 + 1, 5, none⟩ = some (.int .i64 x2_5) ∧ w'.cell? ⟨W.heap.size + 1 + 1, 6, none⟩ = some (.int .i64 x2_6) ∧ w'.cell? ⟨W.heap.size + 1 + 1, 7, none⟩ = some (.slice A2_7 l2_7.length c2_7) ∧ w'.cell? ⟨W.heap.size + 1 + 1, 8, none⟩ = some (.slice A2_8 l2_8.length c2_8) ∧ w'.cell? ⟨W.heap.size + 1 + 1, 9, none⟩ = some (.slice A2_9 l2_9.length c2_9))
    (first
      | exact HK0.out
      | exact HK1.out
      | exact HK2.out)
    (first
      | (go_at_call_of 17 (Value.int IntKind.i64 x2_0); refine (toHead_any x2_0 x2_1 x2_2 x2_5 x2_6 _ _ _ _ _ l2_3 l2_4 l2_7 l2_8 l2_9 _ (hs2_3.up HE0.out.bel) (hs2_4.up HE0.out.bel) (hs2_7.up HE0.out.bel) (hs2_8.up HE0.out.bel) (hs2_9.up HE0.out.bel) hL2_3 hL2_4 hL2_7 hL2_8 hL2_9 hN2_9).mono ?_; rintro e w11 ⟨u11_3, u11_4, u11_7, u11_8, u11_9, vs11_9, rfl, hv11_9, K⟩; have HV11_9 := Lib.hid hv11_9; obtain ⟨A11_3', c11_3', rfl⟩ := K.openB' (.head _); obtain ⟨A11_4', c11_4', rfl⟩ := K.openB' (.tail _ (.head _)); obtain ⟨A11_7', c11_7', rfl⟩ := K.openB' (.tail _ (.tail _ (.head _))); obtain ⟨A11_8', c11_8', rfl⟩ := K.openB' (.tail _ (.tail _ (.tail _ (.head _)))); obtain ⟨A11_9', c11_9', rfl⟩ := K.openS hv11_9 (.tail _ (.tail _ (.tail _ (.tail _ (.head _))))); clear hv11_9; have HT := HE0.out.moreF K; clear K; have HX : InvF W w11 [segB 5 (.slice A11_3' l2_3.length c11_3') l2_3, segB 5 (.slice A11_4' l2_4.length c11_4') l2_4, segB 5 (.slice A11_7' l2_7.length c11_7') l2_7, segB 5 (.slice A11_8' l2_8.length c11_8') l2_8, segS 24 5 (.slice A11_9' l2_9.length c11_9') vs11_9 l2_9, segX 29 w6.heap.size [.int .i64 x2_0, .int .i64 x2_1, .int .i64 x2_2, (.slice A6_3' l2_3.length c6_3'), (.slice A6_4' l2_4.length c6_4'), .int .i64 x2_5, .int .i64 x2_6, (.slice A6_7' l2_7.length c6_7'), (.slice A6_8' l2_8.length c6_8'), (.slice A6_9' l2_9.length c6_9')], segB 5 (.slice A6_3' l2_3.length c6_3') l2_3, segB 5 (.slice A6_4' l2_4.length c6_4') l2_4, segB 5 (.slice A6_7' l2_7.length c6_7') l2_7, segB 5 (.slice A6_8' l2_8.length c6_8') l2_8, segS 24 5 (.slice A6_9' l2_9.length c6_9') vs6_9 l2_9, segX 29 w5.heap.size [.int .i64 x1_0, .int .i64 x1_1, .int .i64 x1_2, (.slice A5_3' l1_3.length c5_3'), (.slice A5_4' l1_4.length c5_4'), .int .i64 x1_5, .int .i64 x1_6, (.slice A5_7' l1_7.length c5_7'), (.slice A5_8' l1_8.length c5_8'), (.slice A5_9' l1_9.length c5_9')], segB 5 (.slice A5_3' l1_3.length c5_3') l1_3, segB 5 (.slice A5_4' l1_4.length c5_4') l1_4, segB 5 (.slice A5_7' l1_7.length c5_7') l1_7, segB 5 (.slice A5_8' l1_8.length c5_8') l1_8, segS 24 5 (.slice A5_9' l1_9.length c5_9') vs5_9 l1_9, segX 42 (W.heap.size + 1 + 1) [.int .i64 x2_0, .int .i64 x2_1, .int .i64 x2_2, (.slice A2_3 l2_3.length c2_3), (.slice A2_4 l2_4.length c2_4), .int .i64 x2_5, .int .i64 x2_6, (.slice A2_7 l2_7.length c2_7), (.slice A2_8 l2_8.length c2_8), (.slice A2_9 l2_9.length c2_9)], segX 42 (W.heap.size + 1) [.int .i64 x1_0, .int .i64 x1_1, .int .i64 x1_2, (.slice A1_3 l1_3.length c1_3), (.slice A1_4 l1_4.length c1_4), .int .i64 x1_5, .int .i64 x1_6, (.slice A1_7 l1_7.length c1_7), (.slice A1_8 l1_8.length c1_8), (.slice A1_9 l1_9.length c1_9)], segX 23 W.heap.size [.int .i64 x0_0, .int .i64 x0_1, .int .i64 x0_2, .int .i64 x0_3, .int .i64 x0_4]] := HT; clear HT; have HE1 := Lib.hid HX; clear HX; have HK1 := Lib.hid (ten10 (HE1.out.k10 (.tail _ (.tail _ (.tail _ (.tail _ (.tail _ (.head _))))))) (HE1.out.k10 (.tail _ (.tail _ (.tail _ (.tail _ (.tail _ (.tail _ (.tail _ (.tail _ (.tail _ (.tail _ (.tail _ (.tail _ (.tail _ (.tail _ (.tail _ (.tail _ (.tail _ (.head _)))))))))))))))))))))
      | (go_at_call 10; refine (eqHead_any x2_0 x2_1 x2_2 x2_5 x2_6 _ _ _ _ _ _ _ _ _ _ l2_3 l2_4 l2_7 l2_8 l2_9 _ (HE1.out.slB 5 (.tail _ (.tail _ (.tail _ (.tail _ (.tail _ (.tail _ (.head _)))))))) (HE1.out.slB 5 (.tail _ (.tail _ (.tail _ (.tail _ (.tail _ (.tail _ (.tail _ (.head _))))))))) (HE1.out.slB 5 (.tail _ (.tail _ (.tail _ (.tail _ (.tail _ (.tail _ (.tail _ (.tail _ (.head _)))))))))) (HE1.out.slB 5 (.tail _ (.tail _ (.tail _ (.tail _ (.tail _ (.tail _ (.tail _ (.tail _ (.tail _ (.head _))))))))))) (HE1.out.slS 24 5 HV6_9.out (.tail _ (.tail _ (.tail _ (.tail _ (.tail _ (.tail _ (.tail _ (.tail _ (.tail _ (.tail _ (.head _)))))))))))) (HE1.out.slB 5 (.head _)) (HE1.out.slB 5 (.tail _ (.head _))) (HE1.out.slB 5 (.tail _ (.tail _ (.head _)))) (HE1.out.slB 5 (.tail _ (.tail _ (.tail _ (.head _))))) (HE1.out.slS 24 5 HV11_9.out (.tail _ (.tail _ (.tail _ (.tail _ (.head _))))))).mono ?_; rintro e w12 ⟨rfl, hb⟩; have HX := HE1.out.up hb; clear hb; have HE2 := Lib.hid HX; clear HX; have HK2 := Lib.hid (ten10 (HE2.out.k10 (.tail _ (.tail _ (.tail _ (.tail _ (.tail _ (.head _))))))) (HE2.out.k10 (.tail _ (.tail _ (.tail _ (.tail _ (.tail _ (.tail _ (.tail _ (.tail _ (.tail _ (.tail _ (.tail _ (.tail _ (.tail _ (.tail _ (.tail _ (.tail _ (.tail _ (.head _))))))))))))))))))))))
  clear H b42_0 b42_1 b42_2 b42_3 b42_4 b42_5 b42_6 b42_7 b42_8 b42_9 b43_0 b43_1 b43_2 b43_3 b43_4 b43_5 b43_6 b43_7 b43_8 b43_9 b44_0 b44_1 b44_2 b44_3 b44_4 b44_5 b44_6 b44_7 b44_8 b44_9 b45_0 b45_1 b45_2 b45_3 b45_4 b45_5 b45_6 b45_7 b45_8 b45_9 b46_0 b46_1 b46_2 b46_3 b46_4
  have H := HE2.out
  clear HE0 HK0 HE1 HK1 HE2 HK2
  replace H := H.sub (qs := [segX 29 w6.heap.size [.int .i64 x2_0, .int .i64 x2_1, .int .i64 x2_2, (.slice A6_3' l2_3.length c6_3'), (.slice A6_4' l2_4.length c6_4'), .int .i64 x2_5, .int .i64 x2_6, (.slice A6_7' l2_7.length c6_7'), (.slice A6_8' l2_8.length c6_8'), (.slice A6_9' l2_9.length c6_9')], segB 5 (.slice A6_3' l2_3.length c6_3') l2_3, segB 5 (.slice A6_4' l2_4.length c6_4') l2_4, segB 5 (.slice A6_7' l2_7.length c6_7') l2_7, segB 5 (.slice A6_8' l2_8.length c6_8') l2_8, segS 24 5 (.slice A6_9' l2_9.length c6_9') vs6_9 l2_9, segX 29 w5.heap.size [.int .i64 x1_0, .int .i64 x1_1, .int .i64 x1_2, (.slice A5_3' l1_3.length c5_3'), (.slice A5_4' l1_4.length c5_4'), .int .i64 x1_5, .int .i64 x1_6, (.slice A5_7' l1_7.length c5_7'), (.slice A5_8' l1_8.length c5_8'), (.slice A5_9' l1_9.length c5_9')], segB 5 (.slice A5_3' l1_3.length c5_3') l1_3, segB 5 (.slice A5_4' l1_4.length c5_4') l1_4, segB 5 (.slice A5_7' l1_7.length c5_7') l1_7, segB 5 (.slice A5_8' l1_8.length c5_8') l1_8, segS 24 5 (.slice A5_9' l1_9.length c5_9') vs5_9 l1_9, segX 42 (W.heap.size + 1 + 1) [.int .i64 x2_0, .int .i64 x2_1, .int .i64 x2_2, (.slice A2_3 l2_3.length c2_3), (.slice A2_4 l2_4.length c2_4), .int .i64 x2_5, .int .i64 x2_6, (.slice A2_7 l2_7.length c2_7), (.slice A2_8 l2_8.length c2_8), (.slice A2_9 l2_9.length c2_9)], segX 42 (W.heap.size + 1) [.int .i64 x1_0, .int .i64 x1_1, .int .i64 x1_2, (.slice A1_3 l1_3.length c1_3), (.slice A1_4 l1_4.length c1_4), .int .i64 x1_5, .int .i64 x1_6, (.slice A1_7 l1_7.length c1_7), (.slice A1_8 l1_8.length c1_8), (.slice A1_9 l1_9.length c1_9)], segX 23 W.heap.size [.int .i64 x0_0, .int .i64 x0_1, .int .i64 x0_2, .int .i64 x0_3, .int .i64 x0_4]]) (.cons _ (.cons _ (.cons _ (.cons _ (.cons _ (.cons_cons _ (.cons_cons _ (.cons_cons _ (.cons_cons _ (.cons_cons _ (.cons_cons _ (.cons_cons _ (.cons_cons _ (.cons_cons _ (.cons_cons _ (.cons_cons _ (.cons_cons _ (.cons_cons _ (.cons_cons _ (.cons_cons _ .slnil))))))))))))))))))))
  obtain ⟨b47_0, b47_1, b47_2, b47_3, b47_4, b47_5, b47_6, b47_7, b47_8, b47_9⟩ := H.c10 (.head _)
  obtain ⟨b48_0, b48_1, b48_2, b48_3, b48_4, b48_5, b48_6, b48_7, b48_8, b48_9⟩ := H.c10 (.tail _ (.tail _ (.tail _ (.tail _ (.tail _ (.tail _ (.head _)))))))
  obtain ⟨b49_0, b49_1, b49_2, b49_3, b49_4, b49_5, b49_6, b49_7, b49_8, b49_9⟩ := H.c10 (.tail _ (.tail _ (.tail _ (.tail _ (.tail _ (.tail _ (.tail _ (.tail _ (.tail _ (.tail _ (.tail _ (.tail _ (.head _)))))))))))))
  obtain ⟨b50_0, b50_1, b50_2, b50_3, b50_4, b50_5, b50_6, b50_7, b50_8, b50_9⟩ := H.c10 (.tail _ (.tail _ (.tail _ (.tail _ (.tail _ (.tail _ (.tail _ (.tail _ (.tail _ (.tail _ (.tail _ (.tail _ (.tail _ (.head _))))))))))))))
  obtain ⟨b51_0, b51_1, b51_2, b51_3, b51_4⟩ := H.c5 (.tail _ (.tail _ (.tail _ (.tail _ (.tail _ (.tail _ (.tail _ (.tail _ (.tail _ (.tail _ (.tail _ (.tail _ (.tail _ (.tail _ (.head _)))))))))))))))
  go_wp2_with fail
  go_ret
  exact ⟨rfl, by have hfin := H.bel; simpa using hfin⟩
end Go.Proofs.YtgblkopdchpciaaDoor
