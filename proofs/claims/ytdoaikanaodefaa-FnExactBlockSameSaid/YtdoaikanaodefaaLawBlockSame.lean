/- The walk of the exact law of BlockSame: for every argument the law answers true and leaves all memory that was there as it was. -/
import Derived.Test.YtdoaikanaodefaaBlockSame
import Derived.Test.YtdoaikanaodefaaBlockM
import Derived.Deep.RegionHeld3
namespace Go.Proofs.Ytdoaikanaodefaa
open Go.ChangeShapes Go.WideShapes Go.ChangeAt Go.RowKit

set_option maxRecDepth 100000 in
set_option maxHeartbeats 8000000 in
theorem BlockSame_walk (x0_0 x0_1 x0_2 x0_5 x0_6 : Int) (v0_3 v0_4 v0_7 v0_8 v0_9 v0_10 : Value) (l0_3 : List UInt8) (l0_4 : List UInt8) (l0_7 : List UInt8) (l0_8 : List UInt8) (l0_9 : List (List UInt8)) (l0_10 : List (List UInt8)) (x1_0 x1_1 x1_2 x1_5 x1_6 : Int) (v1_3 v1_4 v1_7 v1_8 v1_9 v1_10 : Value) (l1_3 : List UInt8) (l1_4 : List UInt8) (l1_7 : List UInt8) (l1_8 : List UInt8) (l1_9 : List (List UInt8)) (l1_10 : List (List UInt8)) (W : World) (h0_3 : Sl W W.heap.size v0_3 l0_3) (h0_4 : Sl W W.heap.size v0_4 l0_4) (h0_7 : Sl W W.heap.size v0_7 l0_7) (h0_8 : Sl W W.heap.size v0_8 l0_8) (h0_9 : SlS W W.heap.size v0_9 l0_9) (h0_10 : SlS W W.heap.size v0_10 l0_10) (h1_3 : Sl W W.heap.size v1_3 l1_3) (h1_4 : Sl W W.heap.size v1_4 l1_4) (h1_7 : Sl W W.heap.size v1_7 l1_7) (h1_8 : Sl W W.heap.size v1_8 l1_8) (h1_9 : SlS W W.heap.size v1_9 l1_9) (h1_10 : SlS W W.heap.size v1_10 l1_10)  :
    Calls Try.prog 4 #[.agg #[.int .i64 x0_0, .int .i64 x0_1, .int .i64 x0_2, v0_3, v0_4, .int .i64 x0_5, .int .i64 x0_6, v0_7, v0_8, v0_9, v0_10], .agg #[.int .i64 x1_0, .int .i64 x1_1, .int .i64 x1_2, v1_3, v1_4, .int .i64 x1_5, .int .i64 x1_6, v1_7, v1_8, v1_9, v1_10]] W (Yes W) := by
  have hs0_3 := h0_3
  obtain ⟨A0_3, c0_3, rfl, p0_3, q0_3, r0_3, z0_3⟩ := h0_3
  unfold maxLen at q0_3
  clear r0_3 z0_3
  have hs0_4 := h0_4
  obtain ⟨A0_4, c0_4, rfl, p0_4, q0_4, r0_4, z0_4⟩ := h0_4
  unfold maxLen at q0_4
  clear r0_4 z0_4
  have hs0_7 := h0_7
  obtain ⟨A0_7, c0_7, rfl, p0_7, q0_7, r0_7, z0_7⟩ := h0_7
  unfold maxLen at q0_7
  clear r0_7 z0_7
  have hs0_8 := h0_8
  obtain ⟨A0_8, c0_8, rfl, p0_8, q0_8, r0_8, z0_8⟩ := h0_8
  unfold maxLen at q0_8
  clear r0_8 z0_8
  have hs0_9 := h0_9
  obtain ⟨A0_9, c0_9, rfl, p0_9, q0_9, r0_9, z0_9⟩ := h0_9
  unfold maxLen at q0_9
  clear r0_9 z0_9
  have hs0_10 := h0_10
  obtain ⟨A0_10, c0_10, rfl, p0_10, q0_10, r0_10, z0_10⟩ := h0_10
  unfold maxLen at q0_10
  clear r0_10 z0_10
  have hs1_3 := h1_3
  obtain ⟨A1_3, c1_3, rfl, p1_3, q1_3, r1_3, z1_3⟩ := h1_3
  unfold maxLen at q1_3
  clear r1_3 z1_3
  have hs1_4 := h1_4
  obtain ⟨A1_4, c1_4, rfl, p1_4, q1_4, r1_4, z1_4⟩ := h1_4
  unfold maxLen at q1_4
  clear r1_4 z1_4
  have hs1_7 := h1_7
  obtain ⟨A1_7, c1_7, rfl, p1_7, q1_7, r1_7, z1_7⟩ := h1_7
  unfold maxLen at q1_7
  clear r1_7 z1_7
  have hs1_8 := h1_8
  obtain ⟨A1_8, c1_8, rfl, p1_8, q1_8, r1_8, z1_8⟩ := h1_8
  unfold maxLen at q1_8
  clear r1_8 z1_8
  have hs1_9 := h1_9
  obtain ⟨A1_9, c1_9, rfl, p1_9, q1_9, r1_9, z1_9⟩ := h1_9
  unfold maxLen at q1_9
  clear r1_9 z1_9
  have hs1_10 := h1_10
  obtain ⟨A1_10, c1_10, rfl, p1_10, q1_10, r1_10, z1_10⟩ := h1_10
  unfold maxLen at q1_10
  clear r1_10 z1_10
  by_cases hbig : (1048576 : Int) < (l0_3.length : Int) + (l0_4.length : Int) + (l0_7.length : Int) + (l0_8.length : Int) + (l0_9.length : Int) + (sumL l0_9 : Int) + (l0_10.length : Int) + (sumL l0_10 : Int)
  · have HZ0 : Hid (szGZ l0_3 l0_4 l0_7 l0_8 l0_9 l0_10 (1048576 : Int) = -1) := Lib.hid (by exact szGZ_big hbig)
    clear hbig
    have H : InvF W W [] := InvF.start W
    replace H := H.newG 45 #[.int .i64 x0_0, .int .i64 x0_1, .int .i64 x0_2, .slice A0_3 l0_3.length c0_3, .slice A0_4 l0_4.length c0_4, .int .i64 x0_5, .int .i64 x0_6, .slice A0_7 l0_7.length c0_7, .slice A0_8 l0_8.length c0_8, .slice A0_9 l0_9.length c0_9, .slice A0_10 l0_10.length c0_10] (W.heap.size)
    replace H := H.newG 45 #[.int .i64 x1_0, .int .i64 x1_1, .int .i64 x1_2, .slice A1_3 l1_3.length c1_3, .slice A1_4 l1_4.length c1_4, .int .i64 x1_5, .int .i64 x1_6, .slice A1_7 l1_7.length c1_7, .slice A1_8 l1_8.length c1_8, .slice A1_9 l1_9.length c1_9, .slice A1_10 l1_10.length c1_10] (W.heap.size + 1)
    replace H : InvF W _ [segX 45 (W.heap.size + 1) [.int .i64 x1_0, .int .i64 x1_1, .int .i64 x1_2, (.slice A1_3 l1_3.length c1_3), (.slice A1_4 l1_4.length c1_4), .int .i64 x1_5, .int .i64 x1_6, (.slice A1_7 l1_7.length c1_7), (.slice A1_8 l1_8.length c1_8), (.slice A1_9 l1_9.length c1_9), (.slice A1_10 l1_10.length c1_10)], segX 45 W.heap.size [.int .i64 x0_0, .int .i64 x0_1, .int .i64 x0_2, (.slice A0_3 l0_3.length c0_3), (.slice A0_4 l0_4.length c0_4), .int .i64 x0_5, .int .i64 x0_6, (.slice A0_7 l0_7.length c0_7), (.slice A0_8 l0_8.length c0_8), (.slice A0_9 l0_9.length c0_9), (.slice A0_10 l0_10.length c0_10)]] := H
    go_enter Try.func4, Try.ntmps4
    obtain ⟨b1_0, b1_1, b1_2, b1_3, b1_4, b1_5, b1_6, b1_7, b1_8, b1_9, b1_10⟩ := H.c11 (.head _)
    obtain ⟨b2_0, b2_1, b2_2, b2_3, b2_4, b2_5, b2_6, b2_7, b2_8, b2_9, b2_10⟩ := H.c11 (.tail _ (.head _))
    go_wp2_with fail
    refine (szBlock_any x0_0 x0_1 x0_2 x0_5 x0_6 _ _ _ _ _ _ l0_3 l0_4 l0_7 l0_8 l0_9 l0_10 1048576 _ (hs0_3.up H.bel) (hs0_4.up H.bel) (hs0_7.up H.bel) (hs0_8.up H.bel) (hs0_9.up H.bel) (hs0_10.up H.bel) (by omega) (by omega)).mono ?_
    rw [HZ0.out]
    rintro e wz0 ⟨rfl, hb⟩
    replace H := H.up hb
    clear hb
    clear b1_0 b1_1 b1_2 b1_3 b1_4 b1_5 b1_6 b1_7 b1_8 b1_9 b1_10 b2_0 b2_1 b2_2 b2_3 b2_4 b2_5 b2_6 b2_7 b2_8 b2_9 b2_10
    obtain ⟨b3_0, b3_1, b3_2, b3_3, b3_4, b3_5, b3_6, b3_7, b3_8, b3_9, b3_10⟩ := H.c11 (.head _)
    obtain ⟨b4_0, b4_1, b4_2, b4_3, b4_4, b4_5, b4_6, b4_7, b4_8, b4_9, b4_10⟩ := H.c11 (.tail _ (.head _))
    go_wp2
    go_ret
    exact ⟨rfl, H.bel⟩
  obtain ⟨zz0, hz⟩ : ∃ z, z = (1048576 : Int) - ((l0_3.length : Int) + (l0_4.length : Int) + (l0_7.length : Int) + (l0_8.length : Int) + (l0_9.length : Int) + (sumL l0_9 : Int) + (l0_10.length : Int) + (sumL l0_10 : Int)) := ⟨_, rfl⟩
  have HZ0 : Hid (szGZ l0_3 l0_4 l0_7 l0_8 l0_9 l0_10 (1048576 : Int) = zz0) := Lib.hid (by rw [hz]; exact szGZ_ok hbig)
  have hzlo0 : 0 ≤ zz0 := by omega
  have hzhi0 : zz0 ≤ 1048576 := by omega
  have hzn0 : ¬ (zz0 < 0) := by omega
  have hL0_3 : l0_3.length ≤ 1048576 := by omega
  have hL0_4 : l0_4.length ≤ 1048576 := by omega
  have hL0_7 : l0_7.length ≤ 1048576 := by omega
  have hL0_8 : l0_8.length ≤ 1048576 := by omega
  have hL0_9 : l0_9.length ≤ 1048576 := by omega
  have hN0_9 : sumL l0_9 ≤ 1048576 := by omega
  have hL0_10 : l0_10.length ≤ 1048576 := by omega
  have hN0_10 : sumL l0_10 ≤ 1048576 := by omega
  have hT0 : l0_3.length + l0_4.length + l0_7.length + l0_8.length + l0_9.length + sumL l0_9 + l0_10.length + sumL l0_10 ≤ 1048576 := by omega
  clear hbig hz
  by_cases hbig : zz0 < (l1_3.length : Int) + (l1_4.length : Int) + (l1_7.length : Int) + (l1_8.length : Int) + (l1_9.length : Int) + (sumL l1_9 : Int) + (l1_10.length : Int) + (sumL l1_10 : Int)
  · have HZ1 : Hid (szGZ l1_3 l1_4 l1_7 l1_8 l1_9 l1_10 zz0 = -1) := Lib.hid (by exact szGZ_big hbig)
    clear hbig
    have H : InvF W W [] := InvF.start W
    replace H := H.newG 45 #[.int .i64 x0_0, .int .i64 x0_1, .int .i64 x0_2, .slice A0_3 l0_3.length c0_3, .slice A0_4 l0_4.length c0_4, .int .i64 x0_5, .int .i64 x0_6, .slice A0_7 l0_7.length c0_7, .slice A0_8 l0_8.length c0_8, .slice A0_9 l0_9.length c0_9, .slice A0_10 l0_10.length c0_10] (W.heap.size)
    replace H := H.newG 45 #[.int .i64 x1_0, .int .i64 x1_1, .int .i64 x1_2, .slice A1_3 l1_3.length c1_3, .slice A1_4 l1_4.length c1_4, .int .i64 x1_5, .int .i64 x1_6, .slice A1_7 l1_7.length c1_7, .slice A1_8 l1_8.length c1_8, .slice A1_9 l1_9.length c1_9, .slice A1_10 l1_10.length c1_10] (W.heap.size + 1)
    replace H : InvF W _ [segX 45 (W.heap.size + 1) [.int .i64 x1_0, .int .i64 x1_1, .int .i64 x1_2, (.slice A1_3 l1_3.length c1_3), (.slice A1_4 l1_4.length c1_4), .int .i64 x1_5, .int .i64 x1_6, (.slice A1_7 l1_7.length c1_7), (.slice A1_8 l1_8.length c1_8), (.slice A1_9 l1_9.length c1_9), (.slice A1_10 l1_10.length c1_10)], segX 45 W.heap.size [.int .i64 x0_0, .int .i64 x0_1, .int .i64 x0_2, (.slice A0_3 l0_3.length c0_3), (.slice A0_4 l0_4.length c0_4), .int .i64 x0_5, .int .i64 x0_6, (.slice A0_7 l0_7.length c0_7), (.slice A0_8 l0_8.length c0_8), (.slice A0_9 l0_9.length c0_9), (.slice A0_10 l0_10.length c0_10)]] := H
    go_enter Try.func4, Try.ntmps4
    obtain ⟨b5_0, b5_1, b5_2, b5_3, b5_4, b5_5, b5_6, b5_7, b5_8, b5_9, b5_10⟩ := H.c11 (.head _)
    obtain ⟨b6_0, b6_1, b6_2, b6_3, b6_4, b6_5, b6_6, b6_7, b6_8, b6_9, b6_10⟩ := H.c11 (.tail _ (.head _))
    go_wp2_with fail
    refine (szBlock_any x0_0 x0_1 x0_2 x0_5 x0_6 _ _ _ _ _ _ l0_3 l0_4 l0_7 l0_8 l0_9 l0_10 1048576 _ (hs0_3.up H.bel) (hs0_4.up H.bel) (hs0_7.up H.bel) (hs0_8.up H.bel) (hs0_9.up H.bel) (hs0_10.up H.bel) (by omega) (by omega)).mono ?_
    rw [HZ0.out]
    rintro e wz0 ⟨rfl, hb⟩
    replace H := H.up hb
    clear hb
    clear b5_0 b5_1 b5_2 b5_3 b5_4 b5_5 b5_6 b5_7 b5_8 b5_9 b5_10 b6_0 b6_1 b6_2 b6_3 b6_4 b6_5 b6_6 b6_7 b6_8 b6_9 b6_10
    obtain ⟨b7_0, b7_1, b7_2, b7_3, b7_4, b7_5, b7_6, b7_7, b7_8, b7_9, b7_10⟩ := H.c11 (.head _)
    obtain ⟨b8_0, b8_1, b8_2, b8_3, b8_4, b8_5, b8_6, b8_7, b8_8, b8_9, b8_10⟩ := H.c11 (.tail _ (.head _))
    go_wp2_with fail
    refine (szBlock_any x1_0 x1_1 x1_2 x1_5 x1_6 _ _ _ _ _ _ l1_3 l1_4 l1_7 l1_8 l1_9 l1_10 zz0 _ (hs1_3.up H.bel) (hs1_4.up H.bel) (hs1_7.up H.bel) (hs1_8.up H.bel) (hs1_9.up H.bel) (hs1_10.up H.bel) (by omega) (by omega)).mono ?_
    rw [HZ1.out]
    rintro e wz1 ⟨rfl, hb⟩
    replace H := H.up hb
    clear hb
    clear b7_0 b7_1 b7_2 b7_3 b7_4 b7_5 b7_6 b7_7 b7_8 b7_9 b7_10 b8_0 b8_1 b8_2 b8_3 b8_4 b8_5 b8_6 b8_7 b8_8 b8_9 b8_10
    obtain ⟨b9_0, b9_1, b9_2, b9_3, b9_4, b9_5, b9_6, b9_7, b9_8, b9_9, b9_10⟩ := H.c11 (.head _)
    obtain ⟨b10_0, b10_1, b10_2, b10_3, b10_4, b10_5, b10_6, b10_7, b10_8, b10_9, b10_10⟩ := H.c11 (.tail _ (.head _))
    go_wp2
    go_ret
    exact ⟨rfl, H.bel⟩
  obtain ⟨zz1, hz⟩ : ∃ z, z = zz0 - ((l1_3.length : Int) + (l1_4.length : Int) + (l1_7.length : Int) + (l1_8.length : Int) + (l1_9.length : Int) + (sumL l1_9 : Int) + (l1_10.length : Int) + (sumL l1_10 : Int)) := ⟨_, rfl⟩
  have HZ1 : Hid (szGZ l1_3 l1_4 l1_7 l1_8 l1_9 l1_10 zz0 = zz1) := Lib.hid (by rw [hz]; exact szGZ_ok hbig)
  have hzlo1 : 0 ≤ zz1 := by omega
  have hzhi1 : zz1 ≤ 1048576 := by omega
  have hzn1 : ¬ (zz1 < 0) := by omega
  have hL1_3 : l1_3.length ≤ 1048576 := by omega
  have hL1_4 : l1_4.length ≤ 1048576 := by omega
  have hL1_7 : l1_7.length ≤ 1048576 := by omega
  have hL1_8 : l1_8.length ≤ 1048576 := by omega
  have hL1_9 : l1_9.length ≤ 1048576 := by omega
  have hN1_9 : sumL l1_9 ≤ 1048576 := by omega
  have hL1_10 : l1_10.length ≤ 1048576 := by omega
  have hN1_10 : sumL l1_10 ≤ 1048576 := by omega
  have hT1 : l1_3.length + l1_4.length + l1_7.length + l1_8.length + l1_9.length + sumL l1_9 + l1_10.length + sumL l1_10 ≤ 1048576 := by omega
  clear hbig hz
  obtain ⟨b0, hB⟩ : ∃ b, b = sameGB x0_0 x0_1 x0_2 x0_5 x0_6 l0_3 l0_4 l0_7 l0_8 l0_9 l0_10 x1_0 x1_1 x1_2 x1_5 x1_6 l1_3 l1_4 l1_7 l1_8 l1_9 l1_10 := ⟨_, rfl⟩
  have HB0 := Lib.hid hB
  clear hB
  have hbb0 : (b0 != b0) = false := by simp
  have H : InvF W W [] := InvF.start W
  replace H := H.newG 45 #[.int .i64 x0_0, .int .i64 x0_1, .int .i64 x0_2, .slice A0_3 l0_3.length c0_3, .slice A0_4 l0_4.length c0_4, .int .i64 x0_5, .int .i64 x0_6, .slice A0_7 l0_7.length c0_7, .slice A0_8 l0_8.length c0_8, .slice A0_9 l0_9.length c0_9, .slice A0_10 l0_10.length c0_10] (W.heap.size)
  replace H := H.newG 45 #[.int .i64 x1_0, .int .i64 x1_1, .int .i64 x1_2, .slice A1_3 l1_3.length c1_3, .slice A1_4 l1_4.length c1_4, .int .i64 x1_5, .int .i64 x1_6, .slice A1_7 l1_7.length c1_7, .slice A1_8 l1_8.length c1_8, .slice A1_9 l1_9.length c1_9, .slice A1_10 l1_10.length c1_10] (W.heap.size + 1)
  replace H : InvF W _ [segX 45 (W.heap.size + 1) [.int .i64 x1_0, .int .i64 x1_1, .int .i64 x1_2, (.slice A1_3 l1_3.length c1_3), (.slice A1_4 l1_4.length c1_4), .int .i64 x1_5, .int .i64 x1_6, (.slice A1_7 l1_7.length c1_7), (.slice A1_8 l1_8.length c1_8), (.slice A1_9 l1_9.length c1_9), (.slice A1_10 l1_10.length c1_10)], segX 45 W.heap.size [.int .i64 x0_0, .int .i64 x0_1, .int .i64 x0_2, (.slice A0_3 l0_3.length c0_3), (.slice A0_4 l0_4.length c0_4), .int .i64 x0_5, .int .i64 x0_6, (.slice A0_7 l0_7.length c0_7), (.slice A0_8 l0_8.length c0_8), (.slice A0_9 l0_9.length c0_9), (.slice A0_10 l0_10.length c0_10)]] := H
  go_enter Try.func4, Try.ntmps4
  obtain ⟨b11_0, b11_1, b11_2, b11_3, b11_4, b11_5, b11_6, b11_7, b11_8, b11_9, b11_10⟩ := H.c11 (.head _)
  obtain ⟨b12_0, b12_1, b12_2, b12_3, b12_4, b12_5, b12_6, b12_7, b12_8, b12_9, b12_10⟩ := H.c11 (.tail _ (.head _))
  go_wp2_with fail
  refine (szBlock_any x0_0 x0_1 x0_2 x0_5 x0_6 _ _ _ _ _ _ l0_3 l0_4 l0_7 l0_8 l0_9 l0_10 1048576 _ (hs0_3.up H.bel) (hs0_4.up H.bel) (hs0_7.up H.bel) (hs0_8.up H.bel) (hs0_9.up H.bel) (hs0_10.up H.bel) (by omega) (by omega)).mono ?_
  rw [HZ0.out]
  rintro e wz0 ⟨rfl, hb⟩
  replace H := H.up hb
  clear hb
  clear b11_0 b11_1 b11_2 b11_3 b11_4 b11_5 b11_6 b11_7 b11_8 b11_9 b11_10 b12_0 b12_1 b12_2 b12_3 b12_4 b12_5 b12_6 b12_7 b12_8 b12_9 b12_10
  obtain ⟨b13_0, b13_1, b13_2, b13_3, b13_4, b13_5, b13_6, b13_7, b13_8, b13_9, b13_10⟩ := H.c11 (.head _)
  obtain ⟨b14_0, b14_1, b14_2, b14_3, b14_4, b14_5, b14_6, b14_7, b14_8, b14_9, b14_10⟩ := H.c11 (.tail _ (.head _))
  go_wp2_with fail
  refine (szBlock_any x1_0 x1_1 x1_2 x1_5 x1_6 _ _ _ _ _ _ l1_3 l1_4 l1_7 l1_8 l1_9 l1_10 zz0 _ (hs1_3.up H.bel) (hs1_4.up H.bel) (hs1_7.up H.bel) (hs1_8.up H.bel) (hs1_9.up H.bel) (hs1_10.up H.bel) (by omega) (by omega)).mono ?_
  rw [HZ1.out]
  rintro e wz1 ⟨rfl, hb⟩
  replace H := H.up hb
  clear hb
  clear b13_0 b13_1 b13_2 b13_3 b13_4 b13_5 b13_6 b13_7 b13_8 b13_9 b13_10 b14_0 b14_1 b14_2 b14_3 b14_4 b14_5 b14_6 b14_7 b14_8 b14_9 b14_10
  obtain ⟨b15_0, b15_1, b15_2, b15_3, b15_4, b15_5, b15_6, b15_7, b15_8, b15_9, b15_10⟩ := H.c11 (.head _)
  obtain ⟨b16_0, b16_1, b16_2, b16_3, b16_4, b16_5, b16_6, b16_7, b16_8, b16_9, b16_10⟩ := H.c11 (.tail _ (.head _))
  have HE0 := Lib.hid (H.drewN 1)
  have HK0 := Lib.hid (ten11 (HE0.out.c11 (.tail _ (.head _))) (HE0.out.c11 (.head _)))
  go_wp2_with fail
  go_region_held3 (fun w' => w'.cell? ⟨W.heap.size, 0, none⟩ = some (.int .i64 x0_0) ∧ w'.cell? ⟨W.heap.size, 1, none⟩ = some (.int .i64 x0_1) ∧ w'.cell? ⟨W.heap.size, 2, none⟩ = some (.int .i64 x0_2) ∧ w'.cell? ⟨W.heap.size, 3, none⟩ = some (.slice A0_3 l0_3.length c0_3) ∧ w'.cell? ⟨W.heap.size, 4, none⟩ = some (.slice A0_4 l0_4.length c0_4) ∧ w'.cell? ⟨W.heap.size, 5, none⟩ = some (.int .i64 x0_5) ∧ w'.cell? ⟨W.heap.size, 6, none⟩ = some (.int .i64 x0_6) ∧ w'.cell? ⟨W.heap.size, 7, none⟩ = some (.slice A0_7 l0_7.length c0_7) ∧ w'.cell? ⟨W.heap.size, 8, none⟩ = some (.slice A0_8 l0_8.length c0_8) ∧ w'.cell? ⟨W.heap.size, 9, none⟩ = some (.slice A0_9 l0_9.length c0_9) ∧ w'.cell? ⟨W.heap.size, 10, none⟩ = some (.slice A0_10 l0_10.length c0_10) ∧ w'.cell? ⟨W.heap.size + 1, 0, none⟩ = some (.int .i64 x1_0) ∧ w'.cell? ⟨W.heap.size + 1, 1, none⟩ = some (.int .i64 x1_1) ∧ w'.cell? ⟨W.heap.size + 1, 2, none⟩ = some (.int .i64 x1_2) ∧ w'.cell? ⟨W.heap.size + 1, 3, none⟩ = some (.slice A1_3 l1_3.length c1_3) ∧ w'.cell? ⟨W.heap.size + 1, 4, none⟩ = some (.slice A1_4 l1_4.length c1_4) ∧ w'.cell? ⟨W.heap.size + 1, 5, none⟩ = some (.int .i64 x1_5) ∧ w'.cell? ⟨W.heap.size + 1, 6, none⟩ = some (.int .i64 x1_6) ∧ w'.cell? ⟨W.heap.size + 1, 7, none⟩ = some (.slice A1_7 l1_7.length c1_7) ∧ w'.cell? ⟨W.heap.size + 1, 8, none⟩ = some (.slice A1_8 l1_8.length c1_8) ∧ w'.cell? ⟨W.heap.size + 1, 9, none⟩ = some (.slice A1_9 l1_9.length c1_9) ∧ w'.cell? ⟨W.heap.size + 1, 10, none⟩ = some (.slice A1_10 l1_10.length c1_10))
    (first
      | exact HK0.out
      | exact HK1.out
      | exact HK2.out
      | exact HK3.out)
    (first
      | (go_at_call_of 17 (Value.int IntKind.i64 x0_0); refine (toBlock_any x0_0 x0_1 x0_2 x0_5 x0_6 _ _ _ _ _ _ l0_3 l0_4 l0_7 l0_8 l0_9 l0_10 _ (hs0_3.up HE0.out.bel) (hs0_4.up HE0.out.bel) (hs0_7.up HE0.out.bel) (hs0_8.up HE0.out.bel) (hs0_9.up HE0.out.bel) (hs0_10.up HE0.out.bel) hL0_3 hL0_4 hL0_7 hL0_8 hL0_9 hN0_9 hL0_10 hN0_10).mono ?_; rintro e w1 ⟨u1_3, u1_4, u1_7, u1_8, u1_9, u1_10, vs1_9, vs1_10, rfl, hv1_9, hv1_10, K⟩; have HV1_9 := Lib.hid hv1_9; have HV1_10 := Lib.hid hv1_10; obtain ⟨A1_3', c1_3', rfl⟩ := K.openB' (.head _); obtain ⟨A1_4', c1_4', rfl⟩ := K.openB' (.tail _ (.head _)); obtain ⟨A1_7', c1_7', rfl⟩ := K.openB' (.tail _ (.tail _ (.head _))); obtain ⟨A1_8', c1_8', rfl⟩ := K.openB' (.tail _ (.tail _ (.tail _ (.head _)))); obtain ⟨A1_9', c1_9', rfl⟩ := K.openS hv1_9 (.tail _ (.tail _ (.tail _ (.tail _ (.head _))))); clear hv1_9; obtain ⟨A1_10', c1_10', rfl⟩ := K.openS hv1_10 (.tail _ (.tail _ (.tail _ (.tail _ (.tail _ (.head _)))))); clear hv1_10; have HT := HE0.out.moreF K; clear K; have HX : InvF W w1 [segB 5 (.slice A1_3' l0_3.length c1_3') l0_3, segB 5 (.slice A1_4' l0_4.length c1_4') l0_4, segB 5 (.slice A1_7' l0_7.length c1_7') l0_7, segB 5 (.slice A1_8' l0_8.length c1_8') l0_8, segS 26 5 (.slice A1_9' l0_9.length c1_9') vs1_9 l0_9, segS 26 5 (.slice A1_10' l0_10.length c1_10') vs1_10 l0_10, segX 45 (W.heap.size + 1) [.int .i64 x1_0, .int .i64 x1_1, .int .i64 x1_2, (.slice A1_3 l1_3.length c1_3), (.slice A1_4 l1_4.length c1_4), .int .i64 x1_5, .int .i64 x1_6, (.slice A1_7 l1_7.length c1_7), (.slice A1_8 l1_8.length c1_8), (.slice A1_9 l1_9.length c1_9), (.slice A1_10 l1_10.length c1_10)], segX 45 W.heap.size [.int .i64 x0_0, .int .i64 x0_1, .int .i64 x0_2, (.slice A0_3 l0_3.length c0_3), (.slice A0_4 l0_4.length c0_4), .int .i64 x0_5, .int .i64 x0_6, (.slice A0_7 l0_7.length c0_7), (.slice A0_8 l0_8.length c0_8), (.slice A0_9 l0_9.length c0_9), (.slice A0_10 l0_10.length c0_10)]] := HT; clear HT; have HE1 := Lib.hid HX; clear HX; have HK1 := Lib.hid (ten11 (HE1.out.c11 (.tail _ (.tail _ (.tail _ (.tail _ (.tail _ (.tail _ (.tail _ (.head _))))))))) (HE1.out.c11 (.tail _ (.tail _ (.tail _ (.tail _ (.tail _ (.tail _ (.head _))))))))))
      | (go_at_call_of 17 (Value.int IntKind.i64 x1_0); refine (toBlock_any x1_0 x1_1 x1_2 x1_5 x1_6 _ _ _ _ _ _ l1_3 l1_4 l1_7 l1_8 l1_9 l1_10 _ (hs1_3.up HE1.out.bel) (hs1_4.up HE1.out.bel) (hs1_7.up HE1.out.bel) (hs1_8.up HE1.out.bel) (hs1_9.up HE1.out.bel) (hs1_10.up HE1.out.bel) hL1_3 hL1_4 hL1_7 hL1_8 hL1_9 hN1_9 hL1_10 hN1_10).mono ?_; rintro e w2 ⟨u2_3, u2_4, u2_7, u2_8, u2_9, u2_10, vs2_9, vs2_10, rfl, hv2_9, hv2_10, K⟩; have HV2_9 := Lib.hid hv2_9; have HV2_10 := Lib.hid hv2_10; obtain ⟨A2_3', c2_3', rfl⟩ := K.openB' (.head _); obtain ⟨A2_4', c2_4', rfl⟩ := K.openB' (.tail _ (.head _)); obtain ⟨A2_7', c2_7', rfl⟩ := K.openB' (.tail _ (.tail _ (.head _))); obtain ⟨A2_8', c2_8', rfl⟩ := K.openB' (.tail _ (.tail _ (.tail _ (.head _)))); obtain ⟨A2_9', c2_9', rfl⟩ := K.openS hv2_9 (.tail _ (.tail _ (.tail _ (.tail _ (.head _))))); clear hv2_9; obtain ⟨A2_10', c2_10', rfl⟩ := K.openS hv2_10 (.tail _ (.tail _ (.tail _ (.tail _ (.tail _ (.head _)))))); clear hv2_10; have HT := HE1.out.moreF K; clear K; have HX : InvF W w2 [segB 5 (.slice A2_3' l1_3.length c2_3') l1_3, segB 5 (.slice A2_4' l1_4.length c2_4') l1_4, segB 5 (.slice A2_7' l1_7.length c2_7') l1_7, segB 5 (.slice A2_8' l1_8.length c2_8') l1_8, segS 26 5 (.slice A2_9' l1_9.length c2_9') vs2_9 l1_9, segS 26 5 (.slice A2_10' l1_10.length c2_10') vs2_10 l1_10, segB 5 (.slice A1_3' l0_3.length c1_3') l0_3, segB 5 (.slice A1_4' l0_4.length c1_4') l0_4, segB 5 (.slice A1_7' l0_7.length c1_7') l0_7, segB 5 (.slice A1_8' l0_8.length c1_8') l0_8, segS 26 5 (.slice A1_9' l0_9.length c1_9') vs1_9 l0_9, segS 26 5 (.slice A1_10' l0_10.length c1_10') vs1_10 l0_10, segX 45 (W.heap.size + 1) [.int .i64 x1_0, .int .i64 x1_1, .int .i64 x1_2, (.slice A1_3 l1_3.length c1_3), (.slice A1_4 l1_4.length c1_4), .int .i64 x1_5, .int .i64 x1_6, (.slice A1_7 l1_7.length c1_7), (.slice A1_8 l1_8.length c1_8), (.slice A1_9 l1_9.length c1_9), (.slice A1_10 l1_10.length c1_10)], segX 45 W.heap.size [.int .i64 x0_0, .int .i64 x0_1, .int .i64 x0_2, (.slice A0_3 l0_3.length c0_3), (.slice A0_4 l0_4.length c0_4), .int .i64 x0_5, .int .i64 x0_6, (.slice A0_7 l0_7.length c0_7), (.slice A0_8 l0_8.length c0_8), (.slice A0_9 l0_9.length c0_9), (.slice A0_10 l0_10.length c0_10)]] := HT; clear HT; have HE2 := Lib.hid HX; clear HX; have HK2 := Lib.hid (ten11 (HE2.out.c11 (.tail _ (.tail _ (.tail _ (.tail _ (.tail _ (.tail _ (.tail _ (.tail _ (.tail _ (.tail _ (.tail _ (.tail _ (.tail _ (.head _))))))))))))))) (HE2.out.c11 (.tail _ (.tail _ (.tail _ (.tail _ (.tail _ (.tail _ (.tail _ (.tail _ (.tail _ (.tail _ (.tail _ (.tail _ (.head _))))))))))))))))
      | (go_at_call 16; refine (specBlockSame_any x0_0 x0_1 x0_2 x0_5 x0_6 x1_0 x1_1 x1_2 x1_5 x1_6 _ _ _ _ _ _ _ _ _ _ _ _ l0_3 l0_4 l0_7 l0_8 l0_9 l0_10 l1_3 l1_4 l1_7 l1_8 l1_9 l1_10 _ (HE2.out.slB 5 (.tail _ (.tail _ (.tail _ (.tail _ (.tail _ (.tail _ (.head _)))))))) (HE2.out.slB 5 (.tail _ (.tail _ (.tail _ (.tail _ (.tail _ (.tail _ (.tail _ (.head _))))))))) (HE2.out.slB 5 (.tail _ (.tail _ (.tail _ (.tail _ (.tail _ (.tail _ (.tail _ (.tail _ (.head _)))))))))) (HE2.out.slB 5 (.tail _ (.tail _ (.tail _ (.tail _ (.tail _ (.tail _ (.tail _ (.tail _ (.tail _ (.head _))))))))))) (HE2.out.slS 26 5 HV1_9.out (.tail _ (.tail _ (.tail _ (.tail _ (.tail _ (.tail _ (.tail _ (.tail _ (.tail _ (.tail _ (.head _)))))))))))) (HE2.out.slS 26 5 HV1_10.out (.tail _ (.tail _ (.tail _ (.tail _ (.tail _ (.tail _ (.tail _ (.tail _ (.tail _ (.tail _ (.tail _ (.head _))))))))))))) (HE2.out.slB 5 (.head _)) (HE2.out.slB 5 (.tail _ (.head _))) (HE2.out.slB 5 (.tail _ (.tail _ (.head _)))) (HE2.out.slB 5 (.tail _ (.tail _ (.tail _ (.head _))))) (HE2.out.slS 26 5 HV2_9.out (.tail _ (.tail _ (.tail _ (.tail _ (.head _)))))) (HE2.out.slS 26 5 HV2_10.out (.tail _ (.tail _ (.tail _ (.tail _ (.tail _ (.head _)))))))  ).mono ?_; rw [← HB0.out]; rintro e w3 ⟨rfl, hb⟩; have HX := HE2.out.up hb; clear hb; have HE3 := Lib.hid HX; clear HX; have HK3 := Lib.hid (ten11 (HE3.out.c11 (.tail _ (.tail _ (.tail _ (.tail _ (.tail _ (.tail _ (.tail _ (.tail _ (.tail _ (.tail _ (.tail _ (.tail _ (.tail _ (.head _))))))))))))))) (HE3.out.c11 (.tail _ (.tail _ (.tail _ (.tail _ (.tail _ (.tail _ (.tail _ (.tail _ (.tail _ (.tail _ (.tail _ (.tail _ (.head _)))))))))))))))))
  clear H b15_0 b15_1 b15_2 b15_3 b15_4 b15_5 b15_6 b15_7 b15_8 b15_9 b15_10 b16_0 b16_1 b16_2 b16_3 b16_4 b16_5 b16_6 b16_7 b16_8 b16_9 b16_10
  have H := HE3.out
  clear HE0 HK0 HE1 HK1 HE2 HK2 HE3 HK3
  replace H := H.sub (qs := [segX 45 (W.heap.size + 1) [.int .i64 x1_0, .int .i64 x1_1, .int .i64 x1_2, (.slice A1_3 l1_3.length c1_3), (.slice A1_4 l1_4.length c1_4), .int .i64 x1_5, .int .i64 x1_6, (.slice A1_7 l1_7.length c1_7), (.slice A1_8 l1_8.length c1_8), (.slice A1_9 l1_9.length c1_9), (.slice A1_10 l1_10.length c1_10)], segX 45 W.heap.size [.int .i64 x0_0, .int .i64 x0_1, .int .i64 x0_2, (.slice A0_3 l0_3.length c0_3), (.slice A0_4 l0_4.length c0_4), .int .i64 x0_5, .int .i64 x0_6, (.slice A0_7 l0_7.length c0_7), (.slice A0_8 l0_8.length c0_8), (.slice A0_9 l0_9.length c0_9), (.slice A0_10 l0_10.length c0_10)]]) (.cons _ (.cons _ (.cons _ (.cons _ (.cons _ (.cons _ (.cons _ (.cons _ (.cons _ (.cons _ (.cons _ (.cons _ (.cons_cons _ (.cons_cons _ .slnil))))))))))))))
  obtain ⟨b17_0, b17_1, b17_2, b17_3, b17_4, b17_5, b17_6, b17_7, b17_8, b17_9, b17_10⟩ := H.c11 (.head _)
  obtain ⟨b18_0, b18_1, b18_2, b18_3, b18_4, b18_5, b18_6, b18_7, b18_8, b18_9, b18_10⟩ := H.c11 (.tail _ (.head _))
  go_wp2_with fail
  refine (toBlock_any x0_0 x0_1 x0_2 x0_5 x0_6 _ _ _ _ _ _ l0_3 l0_4 l0_7 l0_8 l0_9 l0_10 _ (hs0_3.up H.bel) (hs0_4.up H.bel) (hs0_7.up H.bel) (hs0_8.up H.bel) (hs0_9.up H.bel) (hs0_10.up H.bel) hL0_3 hL0_4 hL0_7 hL0_8 hL0_9 hN0_9 hL0_10 hN0_10).mono ?_
  rintro e w4 ⟨u4_3, u4_4, u4_7, u4_8, u4_9, u4_10, vs4_9, vs4_10, rfl, hv4_9, hv4_10, K⟩
  have HV4_9 := Lib.hid hv4_9
  have HV4_10 := Lib.hid hv4_10
  obtain ⟨A4_3', c4_3', rfl⟩ := K.openB' (.head _)
  obtain ⟨A4_4', c4_4', rfl⟩ := K.openB' (.tail _ (.head _))
  obtain ⟨A4_7', c4_7', rfl⟩ := K.openB' (.tail _ (.tail _ (.head _)))
  obtain ⟨A4_8', c4_8', rfl⟩ := K.openB' (.tail _ (.tail _ (.tail _ (.head _))))
  obtain ⟨A4_9', c4_9', rfl⟩ := K.openS hv4_9 (.tail _ (.tail _ (.tail _ (.tail _ (.head _)))))
  clear hv4_9
  obtain ⟨A4_10', c4_10', rfl⟩ := K.openS hv4_10 (.tail _ (.tail _ (.tail _ (.tail _ (.tail _ (.head _))))))
  clear hv4_10
  have HT := H.moreF K
  clear K
  replace H : InvF W w4 [segB 5 (.slice A4_3' l0_3.length c4_3') l0_3, segB 5 (.slice A4_4' l0_4.length c4_4') l0_4, segB 5 (.slice A4_7' l0_7.length c4_7') l0_7, segB 5 (.slice A4_8' l0_8.length c4_8') l0_8, segS 26 5 (.slice A4_9' l0_9.length c4_9') vs4_9 l0_9, segS 26 5 (.slice A4_10' l0_10.length c4_10') vs4_10 l0_10, segX 45 (W.heap.size + 1) [.int .i64 x1_0, .int .i64 x1_1, .int .i64 x1_2, (.slice A1_3 l1_3.length c1_3), (.slice A1_4 l1_4.length c1_4), .int .i64 x1_5, .int .i64 x1_6, (.slice A1_7 l1_7.length c1_7), (.slice A1_8 l1_8.length c1_8), (.slice A1_9 l1_9.length c1_9), (.slice A1_10 l1_10.length c1_10)], segX 45 W.heap.size [.int .i64 x0_0, .int .i64 x0_1, .int .i64 x0_2, (.slice A0_3 l0_3.length c0_3), (.slice A0_4 l0_4.length c0_4), .int .i64 x0_5, .int .i64 x0_6, (.slice A0_7 l0_7.length c0_7), (.slice A0_8 l0_8.length c0_8), (.slice A0_9 l0_9.length c0_9), (.slice A0_10 l0_10.length c0_10)]] := HT
  clear HT
  replace H := H.newX 51 #[.int .i64 x0_0, .int .i64 x0_1, .int .i64 x0_2, (.slice A4_3' l0_3.length c4_3'), (.slice A4_4' l0_4.length c4_4'), .int .i64 x0_5, .int .i64 x0_6, (.slice A4_7' l0_7.length c4_7'), (.slice A4_8' l0_8.length c4_8'), (.slice A4_9' l0_9.length c4_9'), (.slice A4_10' l0_10.length c4_10')]
  replace H : InvF W _ [segX 51 w4.heap.size [.int .i64 x0_0, .int .i64 x0_1, .int .i64 x0_2, (.slice A4_3' l0_3.length c4_3'), (.slice A4_4' l0_4.length c4_4'), .int .i64 x0_5, .int .i64 x0_6, (.slice A4_7' l0_7.length c4_7'), (.slice A4_8' l0_8.length c4_8'), (.slice A4_9' l0_9.length c4_9'), (.slice A4_10' l0_10.length c4_10')], segB 5 (.slice A4_3' l0_3.length c4_3') l0_3, segB 5 (.slice A4_4' l0_4.length c4_4') l0_4, segB 5 (.slice A4_7' l0_7.length c4_7') l0_7, segB 5 (.slice A4_8' l0_8.length c4_8') l0_8, segS 26 5 (.slice A4_9' l0_9.length c4_9') vs4_9 l0_9, segS 26 5 (.slice A4_10' l0_10.length c4_10') vs4_10 l0_10, segX 45 (W.heap.size + 1) [.int .i64 x1_0, .int .i64 x1_1, .int .i64 x1_2, (.slice A1_3 l1_3.length c1_3), (.slice A1_4 l1_4.length c1_4), .int .i64 x1_5, .int .i64 x1_6, (.slice A1_7 l1_7.length c1_7), (.slice A1_8 l1_8.length c1_8), (.slice A1_9 l1_9.length c1_9), (.slice A1_10 l1_10.length c1_10)], segX 45 W.heap.size [.int .i64 x0_0, .int .i64 x0_1, .int .i64 x0_2, (.slice A0_3 l0_3.length c0_3), (.slice A0_4 l0_4.length c0_4), .int .i64 x0_5, .int .i64 x0_6, (.slice A0_7 l0_7.length c0_7), (.slice A0_8 l0_8.length c0_8), (.slice A0_9 l0_9.length c0_9), (.slice A0_10 l0_10.length c0_10)]] := H
  clear b17_0 b17_1 b17_2 b17_3 b17_4 b17_5 b17_6 b17_7 b17_8 b17_9 b17_10 b18_0 b18_1 b18_2 b18_3 b18_4 b18_5 b18_6 b18_7 b18_8 b18_9 b18_10
  obtain ⟨b19_0, b19_1, b19_2, b19_3, b19_4, b19_5, b19_6, b19_7, b19_8, b19_9, b19_10⟩ := H.c11 (.head _)
  obtain ⟨b20_0, b20_1, b20_2, b20_3, b20_4, b20_5, b20_6, b20_7, b20_8, b20_9, b20_10⟩ := H.c11 (.tail _ (.tail _ (.tail _ (.tail _ (.tail _ (.tail _ (.tail _ (.head _))))))))
  obtain ⟨b21_0, b21_1, b21_2, b21_3, b21_4, b21_5, b21_6, b21_7, b21_8, b21_9, b21_10⟩ := H.c11 (.tail _ (.tail _ (.tail _ (.tail _ (.tail _ (.tail _ (.tail _ (.tail _ (.head _)))))))))
  go_wp2_with fail
  refine (toBlock_any x1_0 x1_1 x1_2 x1_5 x1_6 _ _ _ _ _ _ l1_3 l1_4 l1_7 l1_8 l1_9 l1_10 _ (hs1_3.up H.bel) (hs1_4.up H.bel) (hs1_7.up H.bel) (hs1_8.up H.bel) (hs1_9.up H.bel) (hs1_10.up H.bel) hL1_3 hL1_4 hL1_7 hL1_8 hL1_9 hN1_9 hL1_10 hN1_10).mono ?_
  rintro e w5 ⟨u5_3, u5_4, u5_7, u5_8, u5_9, u5_10, vs5_9, vs5_10, rfl, hv5_9, hv5_10, K⟩
  have HV5_9 := Lib.hid hv5_9
  have HV5_10 := Lib.hid hv5_10
  obtain ⟨A5_3', c5_3', rfl⟩ := K.openB' (.head _)
  obtain ⟨A5_4', c5_4', rfl⟩ := K.openB' (.tail _ (.head _))
  obtain ⟨A5_7', c5_7', rfl⟩ := K.openB' (.tail _ (.tail _ (.head _)))
  obtain ⟨A5_8', c5_8', rfl⟩ := K.openB' (.tail _ (.tail _ (.tail _ (.head _))))
  obtain ⟨A5_9', c5_9', rfl⟩ := K.openS hv5_9 (.tail _ (.tail _ (.tail _ (.tail _ (.head _)))))
  clear hv5_9
  obtain ⟨A5_10', c5_10', rfl⟩ := K.openS hv5_10 (.tail _ (.tail _ (.tail _ (.tail _ (.tail _ (.head _))))))
  clear hv5_10
  have HT := H.moreF K
  clear K
  replace H : InvF W w5 [segB 5 (.slice A5_3' l1_3.length c5_3') l1_3, segB 5 (.slice A5_4' l1_4.length c5_4') l1_4, segB 5 (.slice A5_7' l1_7.length c5_7') l1_7, segB 5 (.slice A5_8' l1_8.length c5_8') l1_8, segS 26 5 (.slice A5_9' l1_9.length c5_9') vs5_9 l1_9, segS 26 5 (.slice A5_10' l1_10.length c5_10') vs5_10 l1_10, segX 51 w4.heap.size [.int .i64 x0_0, .int .i64 x0_1, .int .i64 x0_2, (.slice A4_3' l0_3.length c4_3'), (.slice A4_4' l0_4.length c4_4'), .int .i64 x0_5, .int .i64 x0_6, (.slice A4_7' l0_7.length c4_7'), (.slice A4_8' l0_8.length c4_8'), (.slice A4_9' l0_9.length c4_9'), (.slice A4_10' l0_10.length c4_10')], segB 5 (.slice A4_3' l0_3.length c4_3') l0_3, segB 5 (.slice A4_4' l0_4.length c4_4') l0_4, segB 5 (.slice A4_7' l0_7.length c4_7') l0_7, segB 5 (.slice A4_8' l0_8.length c4_8') l0_8, segS 26 5 (.slice A4_9' l0_9.length c4_9') vs4_9 l0_9, segS 26 5 (.slice A4_10' l0_10.length c4_10') vs4_10 l0_10, segX 45 (W.heap.size + 1) [.int .i64 x1_0, .int .i64 x1_1, .int .i64 x1_2, (.slice A1_3 l1_3.length c1_3), (.slice A1_4 l1_4.length c1_4), .int .i64 x1_5, .int .i64 x1_6, (.slice A1_7 l1_7.length c1_7), (.slice A1_8 l1_8.length c1_8), (.slice A1_9 l1_9.length c1_9), (.slice A1_10 l1_10.length c1_10)], segX 45 W.heap.size [.int .i64 x0_0, .int .i64 x0_1, .int .i64 x0_2, (.slice A0_3 l0_3.length c0_3), (.slice A0_4 l0_4.length c0_4), .int .i64 x0_5, .int .i64 x0_6, (.slice A0_7 l0_7.length c0_7), (.slice A0_8 l0_8.length c0_8), (.slice A0_9 l0_9.length c0_9), (.slice A0_10 l0_10.length c0_10)]] := HT
  clear HT
  replace H := H.newX 51 #[.int .i64 x1_0, .int .i64 x1_1, .int .i64 x1_2, (.slice A5_3' l1_3.length c5_3'), (.slice A5_4' l1_4.length c5_4'), .int .i64 x1_5, .int .i64 x1_6, (.slice A5_7' l1_7.length c5_7'), (.slice A5_8' l1_8.length c5_8'), (.slice A5_9' l1_9.length c5_9'), (.slice A5_10' l1_10.length c5_10')]
  replace H : InvF W _ [segX 51 w5.heap.size [.int .i64 x1_0, .int .i64 x1_1, .int .i64 x1_2, (.slice A5_3' l1_3.length c5_3'), (.slice A5_4' l1_4.length c5_4'), .int .i64 x1_5, .int .i64 x1_6, (.slice A5_7' l1_7.length c5_7'), (.slice A5_8' l1_8.length c5_8'), (.slice A5_9' l1_9.length c5_9'), (.slice A5_10' l1_10.length c5_10')], segB 5 (.slice A5_3' l1_3.length c5_3') l1_3, segB 5 (.slice A5_4' l1_4.length c5_4') l1_4, segB 5 (.slice A5_7' l1_7.length c5_7') l1_7, segB 5 (.slice A5_8' l1_8.length c5_8') l1_8, segS 26 5 (.slice A5_9' l1_9.length c5_9') vs5_9 l1_9, segS 26 5 (.slice A5_10' l1_10.length c5_10') vs5_10 l1_10, segX 51 w4.heap.size [.int .i64 x0_0, .int .i64 x0_1, .int .i64 x0_2, (.slice A4_3' l0_3.length c4_3'), (.slice A4_4' l0_4.length c4_4'), .int .i64 x0_5, .int .i64 x0_6, (.slice A4_7' l0_7.length c4_7'), (.slice A4_8' l0_8.length c4_8'), (.slice A4_9' l0_9.length c4_9'), (.slice A4_10' l0_10.length c4_10')], segB 5 (.slice A4_3' l0_3.length c4_3') l0_3, segB 5 (.slice A4_4' l0_4.length c4_4') l0_4, segB 5 (.slice A4_7' l0_7.length c4_7') l0_7, segB 5 (.slice A4_8' l0_8.length c4_8') l0_8, segS 26 5 (.slice A4_9' l0_9.length c4_9') vs4_9 l0_9, segS 26 5 (.slice A4_10' l0_10.length c4_10') vs4_10 l0_10, segX 45 (W.heap.size + 1) [.int .i64 x1_0, .int .i64 x1_1, .int .i64 x1_2, (.slice A1_3 l1_3.length c1_3), (.slice A1_4 l1_4.length c1_4), .int .i64 x1_5, .int .i64 x1_6, (.slice A1_7 l1_7.length c1_7), (.slice A1_8 l1_8.length c1_8), (.slice A1_9 l1_9.length c1_9), (.slice A1_10 l1_10.length c1_10)], segX 45 W.heap.size [.int .i64 x0_0, .int .i64 x0_1, .int .i64 x0_2, (.slice A0_3 l0_3.length c0_3), (.slice A0_4 l0_4.length c0_4), .int .i64 x0_5, .int .i64 x0_6, (.slice A0_7 l0_7.length c0_7), (.slice A0_8 l0_8.length c0_8), (.slice A0_9 l0_9.length c0_9), (.slice A0_10 l0_10.length c0_10)]] := H
  clear b19_0 b19_1 b19_2 b19_3 b19_4 b19_5 b19_6 b19_7 b19_8 b19_9 b19_10 b20_0 b20_1 b20_2 b20_3 b20_4 b20_5 b20_6 b20_7 b20_8 b20_9 b20_10 b21_0 b21_1 b21_2 b21_3 b21_4 b21_5 b21_6 b21_7 b21_8 b21_9 b21_10
  obtain ⟨b22_0, b22_1, b22_2, b22_3, b22_4, b22_5, b22_6, b22_7, b22_8, b22_9, b22_10⟩ := H.c11 (.head _)
  obtain ⟨b23_0, b23_1, b23_2, b23_3, b23_4, b23_5, b23_6, b23_7, b23_8, b23_9, b23_10⟩ := H.c11 (.tail _ (.tail _ (.tail _ (.tail _ (.tail _ (.tail _ (.tail _ (.head _))))))))
  obtain ⟨b24_0, b24_1, b24_2, b24_3, b24_4, b24_5, b24_6, b24_7, b24_8, b24_9, b24_10⟩ := H.c11 (.tail _ (.tail _ (.tail _ (.tail _ (.tail _ (.tail _ (.tail _ (.tail _ (.tail _ (.tail _ (.tail _ (.tail _ (.tail _ (.tail _ (.head _)))))))))))))))
  obtain ⟨b25_0, b25_1, b25_2, b25_3, b25_4, b25_5, b25_6, b25_7, b25_8, b25_9, b25_10⟩ := H.c11 (.tail _ (.tail _ (.tail _ (.tail _ (.tail _ (.tail _ (.tail _ (.tail _ (.tail _ (.tail _ (.tail _ (.tail _ (.tail _ (.tail _ (.tail _ (.head _))))))))))))))))
  go_wp2_with fail
  refine (implBlockSame_any x0_0 x0_1 x0_2 x0_5 x0_6 x1_0 x1_1 x1_2 x1_5 x1_6 _ _ _ _ _ _ _ _ _ _ _ _ l0_3 l0_4 l0_7 l0_8 l0_9 l0_10 l1_3 l1_4 l1_7 l1_8 l1_9 l1_10 _ (H.slB 5 (.tail _ (.tail _ (.tail _ (.tail _ (.tail _ (.tail _ (.tail _ (.tail _ (.head _)))))))))) (H.slB 5 (.tail _ (.tail _ (.tail _ (.tail _ (.tail _ (.tail _ (.tail _ (.tail _ (.tail _ (.head _))))))))))) (H.slB 5 (.tail _ (.tail _ (.tail _ (.tail _ (.tail _ (.tail _ (.tail _ (.tail _ (.tail _ (.tail _ (.head _)))))))))))) (H.slB 5 (.tail _ (.tail _ (.tail _ (.tail _ (.tail _ (.tail _ (.tail _ (.tail _ (.tail _ (.tail _ (.tail _ (.head _))))))))))))) (H.slS 26 5 HV4_9.out (.tail _ (.tail _ (.tail _ (.tail _ (.tail _ (.tail _ (.tail _ (.tail _ (.tail _ (.tail _ (.tail _ (.tail _ (.head _)))))))))))))) (H.slS 26 5 HV4_10.out (.tail _ (.tail _ (.tail _ (.tail _ (.tail _ (.tail _ (.tail _ (.tail _ (.tail _ (.tail _ (.tail _ (.tail _ (.tail _ (.head _))))))))))))))) (H.slB 5 (.tail _ (.head _))) (H.slB 5 (.tail _ (.tail _ (.head _)))) (H.slB 5 (.tail _ (.tail _ (.tail _ (.head _))))) (H.slB 5 (.tail _ (.tail _ (.tail _ (.tail _ (.head _)))))) (H.slS 26 5 HV5_9.out (.tail _ (.tail _ (.tail _ (.tail _ (.tail _ (.head _))))))) (H.slS 26 5 HV5_10.out (.tail _ (.tail _ (.tail _ (.tail _ (.tail _ (.tail _ (.head _))))))))  ).mono ?_
  rw [← HB0.out]
  rintro e w6 ⟨rfl, hb⟩
  replace H := H.up hb
  clear hb
  clear b22_0 b22_1 b22_2 b22_3 b22_4 b22_5 b22_6 b22_7 b22_8 b22_9 b22_10 b23_0 b23_1 b23_2 b23_3 b23_4 b23_5 b23_6 b23_7 b23_8 b23_9 b23_10 b24_0 b24_1 b24_2 b24_3 b24_4 b24_5 b24_6 b24_7 b24_8 b24_9 b24_10 b25_0 b25_1 b25_2 b25_3 b25_4 b25_5 b25_6 b25_7 b25_8 b25_9 b25_10
  obtain ⟨b26_0, b26_1, b26_2, b26_3, b26_4, b26_5, b26_6, b26_7, b26_8, b26_9, b26_10⟩ := H.c11 (.head _)
  obtain ⟨b27_0, b27_1, b27_2, b27_3, b27_4, b27_5, b27_6, b27_7, b27_8, b27_9, b27_10⟩ := H.c11 (.tail _ (.tail _ (.tail _ (.tail _ (.tail _ (.tail _ (.tail _ (.head _))))))))
  obtain ⟨b28_0, b28_1, b28_2, b28_3, b28_4, b28_5, b28_6, b28_7, b28_8, b28_9, b28_10⟩ := H.c11 (.tail _ (.tail _ (.tail _ (.tail _ (.tail _ (.tail _ (.tail _ (.tail _ (.tail _ (.tail _ (.tail _ (.tail _ (.tail _ (.tail _ (.head _)))))))))))))))
  obtain ⟨b29_0, b29_1, b29_2, b29_3, b29_4, b29_5, b29_6, b29_7, b29_8, b29_9, b29_10⟩ := H.c11 (.tail _ (.tail _ (.tail _ (.tail _ (.tail _ (.tail _ (.tail _ (.tail _ (.tail _ (.tail _ (.tail _ (.tail _ (.tail _ (.tail _ (.tail _ (.head _))))))))))))))))
  have HE0 := Lib.hid (H.drewN 1)
  have HK0 := Lib.hid (ten11 (HE0.out.c11 (.tail _ (.tail _ (.tail _ (.tail _ (.tail _ (.tail _ (.tail _ (.head _))))))))) (HE0.out.c11 (.tail _ (.tail _ (.tail _ (.tail _ (.tail _ (.tail _ (.tail _ (.tail _ (.tail _ (.tail _ (.tail _ (.tail _ (.tail _ (.tail _ (.tail _ (.head _))))))))))))))))))
  go_wp2_with fail
  go_region_held3 (fun w' => w'.cell? ⟨w4.heap.size, 0, none⟩ = some (.int .i64 x0_0) ∧ w'.cell? ⟨w4.heap.size, 1, none⟩ = some (.int .i64 x0_1) ∧ w'.cell? ⟨w4.heap.size, 2, none⟩ = some (.int .i64 x0_2) ∧ w'.cell? ⟨w4.heap.size, 3, none⟩ = some (.slice A4_3' l0_3.length c4_3') ∧ w'.cell? ⟨w4.heap.size, 4, none⟩ = some (.slice A4_4' l0_4.length c4_4') ∧ w'.cell? ⟨w4.heap.size, 5, none⟩ = some (.int .i64 x0_5) ∧ w'.cell? ⟨w4.heap.size, 6, none⟩ = some (.int .i64 x0_6) ∧ w'.cell? ⟨w4.heap.size, 7, none⟩ = some (.slice A4_7' l0_7.length c4_7') ∧ w'.cell? ⟨w4.heap.size, 8, none⟩ = some (.slice A4_8' l0_8.length c4_8') ∧ w'.cell? ⟨w4.heap.size, 9, none⟩ = some (.slice A4_9' l0_9.length c4_9') ∧ w'.cell? ⟨w4.heap.size, 10, none⟩ = some (.slice A4_10' l0_10.length c4_10') ∧ w'.cell? ⟨W.heap.size, 0, none⟩ = some (.int .i64 x0_0) ∧ w'.cell? ⟨W.heap.size, 1, none⟩ = some (.int .i64 x0_1) ∧ w'.cell? ⟨W.heap.size, 2, none⟩ = some (.int .i64 x0_2) ∧ w'.cell? ⟨W.heap.size, 3, none⟩ = some (.slice A0_3 l0_3.length c0_3) ∧ w'.cell? ⟨W.heap.size, 4, none⟩ = some (.slice A0_4 l0_4.length c0_4) ∧ w'.cell? ⟨W.heap.size, 5, none⟩ = some (.int .i64 x0_5) ∧ w'.cell? ⟨W.heap.size, 6, none⟩ = some (.int .i64 x0_6) ∧ w'.cell? ⟨W.heap.size, 7, none⟩ = some (.slice A0_7 l0_7.length c0_7) ∧ w'.cell? ⟨W.heap.size, 8, none⟩ = some (.slice A0_8 l0_8.length c0_8) ∧ w'.cell? ⟨W.heap.size, 9, none⟩ = some (.slice A0_9 l0_9.length c0_9) ∧ w'.cell? ⟨W.heap.size, 10, none⟩ = some (.slice A0_10 l0_10.length c0_10))
    (first
      | exact HK0.out
      | exact HK1.out
      | exact HK2.out)
    (first
      | (go_at_call_of 17 (Value.int IntKind.i64 x0_0); refine (toBlock_any x0_0 x0_1 x0_2 x0_5 x0_6 _ _ _ _ _ _ l0_3 l0_4 l0_7 l0_8 l0_9 l0_10 _ (hs0_3.up HE0.out.bel) (hs0_4.up HE0.out.bel) (hs0_7.up HE0.out.bel) (hs0_8.up HE0.out.bel) (hs0_9.up HE0.out.bel) (hs0_10.up HE0.out.bel) hL0_3 hL0_4 hL0_7 hL0_8 hL0_9 hN0_9 hL0_10 hN0_10).mono ?_; rintro e w7 ⟨u7_3, u7_4, u7_7, u7_8, u7_9, u7_10, vs7_9, vs7_10, rfl, hv7_9, hv7_10, K⟩; have HV7_9 := Lib.hid hv7_9; have HV7_10 := Lib.hid hv7_10; obtain ⟨A7_3', c7_3', rfl⟩ := K.openB' (.head _); obtain ⟨A7_4', c7_4', rfl⟩ := K.openB' (.tail _ (.head _)); obtain ⟨A7_7', c7_7', rfl⟩ := K.openB' (.tail _ (.tail _ (.head _))); obtain ⟨A7_8', c7_8', rfl⟩ := K.openB' (.tail _ (.tail _ (.tail _ (.head _)))); obtain ⟨A7_9', c7_9', rfl⟩ := K.openS hv7_9 (.tail _ (.tail _ (.tail _ (.tail _ (.head _))))); clear hv7_9; obtain ⟨A7_10', c7_10', rfl⟩ := K.openS hv7_10 (.tail _ (.tail _ (.tail _ (.tail _ (.tail _ (.head _)))))); clear hv7_10; have HT := HE0.out.moreF K; clear K; have HX : InvF W w7 [segB 5 (.slice A7_3' l0_3.length c7_3') l0_3, segB 5 (.slice A7_4' l0_4.length c7_4') l0_4, segB 5 (.slice A7_7' l0_7.length c7_7') l0_7, segB 5 (.slice A7_8' l0_8.length c7_8') l0_8, segS 26 5 (.slice A7_9' l0_9.length c7_9') vs7_9 l0_9, segS 26 5 (.slice A7_10' l0_10.length c7_10') vs7_10 l0_10, segX 51 w5.heap.size [.int .i64 x1_0, .int .i64 x1_1, .int .i64 x1_2, (.slice A5_3' l1_3.length c5_3'), (.slice A5_4' l1_4.length c5_4'), .int .i64 x1_5, .int .i64 x1_6, (.slice A5_7' l1_7.length c5_7'), (.slice A5_8' l1_8.length c5_8'), (.slice A5_9' l1_9.length c5_9'), (.slice A5_10' l1_10.length c5_10')], segB 5 (.slice A5_3' l1_3.length c5_3') l1_3, segB 5 (.slice A5_4' l1_4.length c5_4') l1_4, segB 5 (.slice A5_7' l1_7.length c5_7') l1_7, segB 5 (.slice A5_8' l1_8.length c5_8') l1_8, segS 26 5 (.slice A5_9' l1_9.length c5_9') vs5_9 l1_9, segS 26 5 (.slice A5_10' l1_10.length c5_10') vs5_10 l1_10, segX 51 w4.heap.size [.int .i64 x0_0, .int .i64 x0_1, .int .i64 x0_2, (.slice A4_3' l0_3.length c4_3'), (.slice A4_4' l0_4.length c4_4'), .int .i64 x0_5, .int .i64 x0_6, (.slice A4_7' l0_7.length c4_7'), (.slice A4_8' l0_8.length c4_8'), (.slice A4_9' l0_9.length c4_9'), (.slice A4_10' l0_10.length c4_10')], segB 5 (.slice A4_3' l0_3.length c4_3') l0_3, segB 5 (.slice A4_4' l0_4.length c4_4') l0_4, segB 5 (.slice A4_7' l0_7.length c4_7') l0_7, segB 5 (.slice A4_8' l0_8.length c4_8') l0_8, segS 26 5 (.slice A4_9' l0_9.length c4_9') vs4_9 l0_9, segS 26 5 (.slice A4_10' l0_10.length c4_10') vs4_10 l0_10, segX 45 (W.heap.size + 1) [.int .i64 x1_0, .int .i64 x1_1, .int .i64 x1_2, (.slice A1_3 l1_3.length c1_3), (.slice A1_4 l1_4.length c1_4), .int .i64 x1_5, .int .i64 x1_6, (.slice A1_7 l1_7.length c1_7), (.slice A1_8 l1_8.length c1_8), (.slice A1_9 l1_9.length c1_9), (.slice A1_10 l1_10.length c1_10)], segX 45 W.heap.size [.int .i64 x0_0, .int .i64 x0_1, .int .i64 x0_2, (.slice A0_3 l0_3.length c0_3), (.slice A0_4 l0_4.length c0_4), .int .i64 x0_5, .int .i64 x0_6, (.slice A0_7 l0_7.length c0_7), (.slice A0_8 l0_8.length c0_8), (.slice A0_9 l0_9.length c0_9), (.slice A0_10 l0_10.length c0_10)]] := HT; clear HT; have HE1 := Lib.hid HX; clear HX; have HK1 := Lib.hid (ten11 (HE1.out.c11 (.tail _ (.tail _ (.tail _ (.tail _ (.tail _ (.tail _ (.tail _ (.tail _ (.tail _ (.tail _ (.tail _ (.tail _ (.tail _ (.head _))))))))))))))) (HE1.out.c11 (.tail _ (.tail _ (.tail _ (.tail _ (.tail _ (.tail _ (.tail _ (.tail _ (.tail _ (.tail _ (.tail _ (.tail _ (.tail _ (.tail _ (.tail _ (.tail _ (.tail _ (.tail _ (.tail _ (.tail _ (.tail _ (.head _)))))))))))))))))))))))))
      | (go_at_call 19; refine (eqBlock_any x0_0 x0_1 x0_2 x0_5 x0_6 _ _ _ _ _ _ _ _ _ _ _ _ l0_3 l0_4 l0_7 l0_8 l0_9 l0_10 _ (HE1.out.slB 5 (.tail _ (.tail _ (.tail _ (.tail _ (.tail _ (.tail _ (.tail _ (.tail _ (.tail _ (.tail _ (.tail _ (.tail _ (.tail _ (.tail _ (.head _)))))))))))))))) (HE1.out.slB 5 (.tail _ (.tail _ (.tail _ (.tail _ (.tail _ (.tail _ (.tail _ (.tail _ (.tail _ (.tail _ (.tail _ (.tail _ (.tail _ (.tail _ (.tail _ (.head _))))))))))))))))) (HE1.out.slB 5 (.tail _ (.tail _ (.tail _ (.tail _ (.tail _ (.tail _ (.tail _ (.tail _ (.tail _ (.tail _ (.tail _ (.tail _ (.tail _ (.tail _ (.tail _ (.tail _ (.head _)))))))))))))))))) (HE1.out.slB 5 (.tail _ (.tail _ (.tail _ (.tail _ (.tail _ (.tail _ (.tail _ (.tail _ (.tail _ (.tail _ (.tail _ (.tail _ (.tail _ (.tail _ (.tail _ (.tail _ (.tail _ (.head _))))))))))))))))))) (HE1.out.slS 26 5 HV4_9.out (.tail _ (.tail _ (.tail _ (.tail _ (.tail _ (.tail _ (.tail _ (.tail _ (.tail _ (.tail _ (.tail _ (.tail _ (.tail _ (.tail _ (.tail _ (.tail _ (.tail _ (.tail _ (.head _)))))))))))))))))))) (HE1.out.slS 26 5 HV4_10.out (.tail _ (.tail _ (.tail _ (.tail _ (.tail _ (.tail _ (.tail _ (.tail _ (.tail _ (.tail _ (.tail _ (.tail _ (.tail _ (.tail _ (.tail _ (.tail _ (.tail _ (.tail _ (.tail _ (.head _))))))))))))))))))))) (HE1.out.slB 5 (.head _)) (HE1.out.slB 5 (.tail _ (.head _))) (HE1.out.slB 5 (.tail _ (.tail _ (.head _)))) (HE1.out.slB 5 (.tail _ (.tail _ (.tail _ (.head _))))) (HE1.out.slS 26 5 HV7_9.out (.tail _ (.tail _ (.tail _ (.tail _ (.head _)))))) (HE1.out.slS 26 5 HV7_10.out (.tail _ (.tail _ (.tail _ (.tail _ (.tail _ (.head _)))))))).mono ?_; rintro e w8 ⟨rfl, hb⟩; have HX := HE1.out.up hb; clear hb; have HE2 := Lib.hid HX; clear HX; have HK2 := Lib.hid (ten11 (HE2.out.c11 (.tail _ (.tail _ (.tail _ (.tail _ (.tail _ (.tail _ (.tail _ (.tail _ (.tail _ (.tail _ (.tail _ (.tail _ (.tail _ (.head _))))))))))))))) (HE2.out.c11 (.tail _ (.tail _ (.tail _ (.tail _ (.tail _ (.tail _ (.tail _ (.tail _ (.tail _ (.tail _ (.tail _ (.tail _ (.tail _ (.tail _ (.tail _ (.tail _ (.tail _ (.tail _ (.tail _ (.tail _ (.tail _ (.head _))))))))))))))))))))))))))
  clear H b26_0 b26_1 b26_2 b26_3 b26_4 b26_5 b26_6 b26_7 b26_8 b26_9 b26_10 b27_0 b27_1 b27_2 b27_3 b27_4 b27_5 b27_6 b27_7 b27_8 b27_9 b27_10 b28_0 b28_1 b28_2 b28_3 b28_4 b28_5 b28_6 b28_7 b28_8 b28_9 b28_10 b29_0 b29_1 b29_2 b29_3 b29_4 b29_5 b29_6 b29_7 b29_8 b29_9 b29_10
  have H := HE2.out
  clear HE0 HK0 HE1 HK1 HE2 HK2
  replace H := H.sub (qs := [segX 51 w5.heap.size [.int .i64 x1_0, .int .i64 x1_1, .int .i64 x1_2, (.slice A5_3' l1_3.length c5_3'), (.slice A5_4' l1_4.length c5_4'), .int .i64 x1_5, .int .i64 x1_6, (.slice A5_7' l1_7.length c5_7'), (.slice A5_8' l1_8.length c5_8'), (.slice A5_9' l1_9.length c5_9'), (.slice A5_10' l1_10.length c5_10')], segB 5 (.slice A5_3' l1_3.length c5_3') l1_3, segB 5 (.slice A5_4' l1_4.length c5_4') l1_4, segB 5 (.slice A5_7' l1_7.length c5_7') l1_7, segB 5 (.slice A5_8' l1_8.length c5_8') l1_8, segS 26 5 (.slice A5_9' l1_9.length c5_9') vs5_9 l1_9, segS 26 5 (.slice A5_10' l1_10.length c5_10') vs5_10 l1_10, segX 51 w4.heap.size [.int .i64 x0_0, .int .i64 x0_1, .int .i64 x0_2, (.slice A4_3' l0_3.length c4_3'), (.slice A4_4' l0_4.length c4_4'), .int .i64 x0_5, .int .i64 x0_6, (.slice A4_7' l0_7.length c4_7'), (.slice A4_8' l0_8.length c4_8'), (.slice A4_9' l0_9.length c4_9'), (.slice A4_10' l0_10.length c4_10')], segB 5 (.slice A4_3' l0_3.length c4_3') l0_3, segB 5 (.slice A4_4' l0_4.length c4_4') l0_4, segB 5 (.slice A4_7' l0_7.length c4_7') l0_7, segB 5 (.slice A4_8' l0_8.length c4_8') l0_8, segS 26 5 (.slice A4_9' l0_9.length c4_9') vs4_9 l0_9, segS 26 5 (.slice A4_10' l0_10.length c4_10') vs4_10 l0_10, segX 45 (W.heap.size + 1) [.int .i64 x1_0, .int .i64 x1_1, .int .i64 x1_2, (.slice A1_3 l1_3.length c1_3), (.slice A1_4 l1_4.length c1_4), .int .i64 x1_5, .int .i64 x1_6, (.slice A1_7 l1_7.length c1_7), (.slice A1_8 l1_8.length c1_8), (.slice A1_9 l1_9.length c1_9), (.slice A1_10 l1_10.length c1_10)], segX 45 W.heap.size [.int .i64 x0_0, .int .i64 x0_1, .int .i64 x0_2, (.slice A0_3 l0_3.length c0_3), (.slice A0_4 l0_4.length c0_4), .int .i64 x0_5, .int .i64 x0_6, (.slice A0_7 l0_7.length c0_7), (.slice A0_8 l0_8.length c0_8), (.slice A0_9 l0_9.length c0_9), (.slice A0_10 l0_10.length c0_10)]]) (.cons _ (.cons _ (.cons _ (.cons _ (.cons _ (.cons _ (.cons_cons _ (.cons_cons _ (.cons_cons _ (.cons_cons _ (.cons_cons _ (.cons_cons _ (.cons_cons _ (.cons_cons _ (.cons_cons _ (.cons_cons _ (.cons_cons _ (.cons_cons _ (.cons_cons _ (.cons_cons _ (.cons_cons _ (.cons_cons _ .slnil))))))))))))))))))))))
  obtain ⟨b30_0, b30_1, b30_2, b30_3, b30_4, b30_5, b30_6, b30_7, b30_8, b30_9, b30_10⟩ := H.c11 (.head _)
  obtain ⟨b31_0, b31_1, b31_2, b31_3, b31_4, b31_5, b31_6, b31_7, b31_8, b31_9, b31_10⟩ := H.c11 (.tail _ (.tail _ (.tail _ (.tail _ (.tail _ (.tail _ (.tail _ (.head _))))))))
  obtain ⟨b32_0, b32_1, b32_2, b32_3, b32_4, b32_5, b32_6, b32_7, b32_8, b32_9, b32_10⟩ := H.c11 (.tail _ (.tail _ (.tail _ (.tail _ (.tail _ (.tail _ (.tail _ (.tail _ (.tail _ (.tail _ (.tail _ (.tail _ (.tail _ (.tail _ (.head _)))))))))))))))
  obtain ⟨b33_0, b33_1, b33_2, b33_3, b33_4, b33_5, b33_6, b33_7, b33_8, b33_9, b33_10⟩ := H.c11 (.tail _ (.tail _ (.tail _ (.tail _ (.tail _ (.tail _ (.tail _ (.tail _ (.tail _ (.tail _ (.tail _ (.tail _ (.tail _ (.tail _ (.tail _ (.head _))))))))))))))))
  have HE0 := Lib.hid (H.drewN 1)
  have HK0 := Lib.hid (ten11 (HE0.out.c11 (.head _)) (HE0.out.c11 (.tail _ (.tail _ (.tail _ (.tail _ (.tail _ (.tail _ (.tail _ (.tail _ (.tail _ (.tail _ (.tail _ (.tail _ (.tail _ (.tail _ (.head _)))))))))))))))))
  go_wp2_with fail
  go_region_held3 (fun w' => w'.cell? ⟨w5.heap.size, 0, none⟩ = some (.int .i64 x1_0) ∧ w'.cell? ⟨w5.heap.size, 1, none⟩ = some (.int .i64 x1_1) ∧ w'.cell? ⟨w5.heap.size, 2, none⟩ = some (.int .i64 x1_2) ∧ w'.cell? ⟨w5.heap.size, 3, none⟩ = some (.slice A5_3' l1_3.length c5_3') ∧ w'.cell? ⟨w5.heap.size, 4, none⟩ = some (.slice A5_4' l1_4.length c5_4') ∧ w'.cell? ⟨w5.heap.size, 5, none⟩ = some (.int .i64 x1_5) ∧ w'.cell? ⟨w5.heap.size, 6, none⟩ = some (.int .i64 x1_6) ∧ w'.cell? ⟨w5.heap.size, 7, none⟩ = some (.slice A5_7' l1_7.length c5_7') ∧ w'.cell? ⟨w5.heap.size, 8, none⟩ = some (.slice A5_8' l1_8.length c5_8') ∧ w'.cell? ⟨w5.heap.size, 9, none⟩ = some (.slice A5_9' l1_9.length c5_9') ∧ w'.cell? ⟨w5.heap.size, 10, none⟩ = some (.slice A5_10' l1_10.length c5_10') ∧ w'.cell? ⟨W.heap.size + 1, 0, none⟩ = some (.int .i64 x1_0) ∧ w'.cell? ⟨W.heap.size + 1, 1, none⟩ = some (.int .i64 x1_1) ∧ w'.cell? ⟨W.heap.size + 1, 2, none⟩ = some (.int .i64 x1_2) ∧ w'.cell? ⟨W.heap.size + 1, 3, none⟩ = some (.slice A1_3 l1_3.length c1_3) ∧ w'.cell? ⟨W.heap.size + 1, 4, none⟩ = some (.slice A1_4 l1_4.length c1_4) ∧ w'.cell? ⟨W.heap.size + 1, 5, none⟩ = some (.int .i64 x1_5) ∧ w'.cell? ⟨W.heap.size + 1, 6, none⟩ = some (.int .i64 x1_6) ∧ w'.cell? ⟨W.heap.size + 1, 7, none⟩ = some (.slice A1_7 l1_7.length c1_7) ∧ w'.cell? ⟨W.heap.size + 1, 8, none⟩ = some (.slice A1_8 l1_8.length c1_8) ∧ w'.cell? ⟨W.heap.size + 1, 9, none⟩ = some (.slice A1_9 l1_9.length c1_9) ∧ w'.cell? ⟨W.heap.size + 1, 10, none⟩ = some (.slice A1_10 l1_10.length c1_10))
    (first
      | exact HK0.out
      | exact HK1.out
      | exact HK2.out)
    (first
      | (go_at_call_of 17 (Value.int IntKind.i64 x1_0); refine (toBlock_any x1_0 x1_1 x1_2 x1_5 x1_6 _ _ _ _ _ _ l1_3 l1_4 l1_7 l1_8 l1_9 l1_10 _ (hs1_3.up HE0.out.bel) (hs1_4.up HE0.out.bel) (hs1_7.up HE0.out.bel) (hs1_8.up HE0.out.bel) (hs1_9.up HE0.out.bel) (hs1_10.up HE0.out.bel) hL1_3 hL1_4 hL1_7 hL1_8 hL1_9 hN1_9 hL1_10 hN1_10).mono ?_; rintro e w9 ⟨u9_3, u9_4, u9_7, u9_8, u9_9, u9_10, vs9_9, vs9_10, rfl, hv9_9, hv9_10, K⟩; have HV9_9 := Lib.hid hv9_9; have HV9_10 := Lib.hid hv9_10; obtain ⟨A9_3', c9_3', rfl⟩ := K.openB' (.head _); obtain ⟨A9_4', c9_4', rfl⟩ := K.openB' (.tail _ (.head _)); obtain ⟨A9_7', c9_7', rfl⟩ := K.openB' (.tail _ (.tail _ (.head _))); obtain ⟨A9_8', c9_8', rfl⟩ := K.openB' (.tail _ (.tail _ (.tail _ (.head _)))); obtain ⟨A9_9', c9_9', rfl⟩ := K.openS hv9_9 (.tail _ (.tail _ (.tail _ (.tail _ (.head _))))); clear hv9_9; obtain ⟨A9_10', c9_10', rfl⟩ := K.openS hv9_10 (.tail _ (.tail _ (.tail _ (.tail _ (.tail _ (.head _)))))); clear hv9_10; have HT := HE0.out.moreF K; clear K; have HX : InvF W w9 [segB 5 (.slice A9_3' l1_3.length c9_3') l1_3, segB 5 (.slice A9_4' l1_4.length c9_4') l1_4, segB 5 (.slice A9_7' l1_7.length c9_7') l1_7, segB 5 (.slice A9_8' l1_8.length c9_8') l1_8, segS 26 5 (.slice A9_9' l1_9.length c9_9') vs9_9 l1_9, segS 26 5 (.slice A9_10' l1_10.length c9_10') vs9_10 l1_10, segX 51 w5.heap.size [.int .i64 x1_0, .int .i64 x1_1, .int .i64 x1_2, (.slice A5_3' l1_3.length c5_3'), (.slice A5_4' l1_4.length c5_4'), .int .i64 x1_5, .int .i64 x1_6, (.slice A5_7' l1_7.length c5_7'), (.slice A5_8' l1_8.length c5_8'), (.slice A5_9' l1_9.length c5_9'), (.slice A5_10' l1_10.length c5_10')], segB 5 (.slice A5_3' l1_3.length c5_3') l1_3, segB 5 (.slice A5_4' l1_4.length c5_4') l1_4, segB 5 (.slice A5_7' l1_7.length c5_7') l1_7, segB 5 (.slice A5_8' l1_8.length c5_8') l1_8, segS 26 5 (.slice A5_9' l1_9.length c5_9') vs5_9 l1_9, segS 26 5 (.slice A5_10' l1_10.length c5_10') vs5_10 l1_10, segX 51 w4.heap.size [.int .i64 x0_0, .int .i64 x0_1, .int .i64 x0_2, (.slice A4_3' l0_3.length c4_3'), (.slice A4_4' l0_4.length c4_4'), .int .i64 x0_5, .int .i64 x0_6, (.slice A4_7' l0_7.length c4_7'), (.slice A4_8' l0_8.length c4_8'), (.slice A4_9' l0_9.length c4_9'), (.slice A4_10' l0_10.length c4_10')], segB 5 (.slice A4_3' l0_3.length c4_3') l0_3, segB 5 (.slice A4_4' l0_4.length c4_4') l0_4, segB 5 (.slice A4_7' l0_7.length c4_7') l0_7, segB 5 (.slice A4_8' l0_8.length c4_8') l0_8, segS 26 5 (.slice A4_9' l0_9.length c4_9') vs4_9 l0_9, segS 26 5 (.slice A4_10' l0_10.length c4_10') vs4_10 l0_10, segX 45 (W.heap.size + 1) [.int .i64 x1_0, .int .i64 x1_1, .int .i64 x1_2, (.slice A1_3 l1_3.length c1_3), (.slice A1_4 l1_4.length c1_4), .int .i64 x1_5, .int .i64 x1_6, (.slice A1_7 l1_7.length c1_7), (.slice A1_8 l1_8.length c1_8), (.slice A1_9 l1_9.length c1_9), (.slice A1_10 l1_10.length c1_10)], segX 45 W.heap.size [.int .i64 x0_0, .int .i64 x0_1, .int .i64 x0_2, (.slice A0_3 l0_3.length c0_3), (.slice A0_4 l0_4.length c0_4), .int .i64 x0_5, .int .i64 x0_6, (.slice A0_7 l0_7.length c0_7), (.slice A0_8 l0_8.length c0_8), (.slice A0_9 l0_9.length c0_9), (.slice A0_10 l0_10.length c0_10)]] := HT; clear HT; have HE1 := Lib.hid HX; clear HX; have HK1 := Lib.hid (ten11 (HE1.out.c11 (.tail _ (.tail _ (.tail _ (.tail _ (.tail _ (.tail _ (.head _)))))))) (HE1.out.c11 (.tail _ (.tail _ (.tail _ (.tail _ (.tail _ (.tail _ (.tail _ (.tail _ (.tail _ (.tail _ (.tail _ (.tail _ (.tail _ (.tail _ (.tail _ (.tail _ (.tail _ (.tail _ (.tail _ (.tail _ (.head _))))))))))))))))))))))))
      | (go_at_call 19; refine (eqBlock_any x1_0 x1_1 x1_2 x1_5 x1_6 _ _ _ _ _ _ _ _ _ _ _ _ l1_3 l1_4 l1_7 l1_8 l1_9 l1_10 _ (HE1.out.slB 5 (.tail _ (.tail _ (.tail _ (.tail _ (.tail _ (.tail _ (.tail _ (.head _))))))))) (HE1.out.slB 5 (.tail _ (.tail _ (.tail _ (.tail _ (.tail _ (.tail _ (.tail _ (.tail _ (.head _)))))))))) (HE1.out.slB 5 (.tail _ (.tail _ (.tail _ (.tail _ (.tail _ (.tail _ (.tail _ (.tail _ (.tail _ (.head _))))))))))) (HE1.out.slB 5 (.tail _ (.tail _ (.tail _ (.tail _ (.tail _ (.tail _ (.tail _ (.tail _ (.tail _ (.tail _ (.head _)))))))))))) (HE1.out.slS 26 5 HV5_9.out (.tail _ (.tail _ (.tail _ (.tail _ (.tail _ (.tail _ (.tail _ (.tail _ (.tail _ (.tail _ (.tail _ (.head _))))))))))))) (HE1.out.slS 26 5 HV5_10.out (.tail _ (.tail _ (.tail _ (.tail _ (.tail _ (.tail _ (.tail _ (.tail _ (.tail _ (.tail _ (.tail _ (.tail _ (.head _)))))))))))))) (HE1.out.slB 5 (.head _)) (HE1.out.slB 5 (.tail _ (.head _))) (HE1.out.slB 5 (.tail _ (.tail _ (.head _)))) (HE1.out.slB 5 (.tail _ (.tail _ (.tail _ (.head _))))) (HE1.out.slS 26 5 HV9_9.out (.tail _ (.tail _ (.tail _ (.tail _ (.head _)))))) (HE1.out.slS 26 5 HV9_10.out (.tail _ (.tail _ (.tail _ (.tail _ (.tail _ (.head _)))))))).mono ?_; rintro e w10 ⟨rfl, hb⟩; have HX := HE1.out.up hb; clear hb; have HE2 := Lib.hid HX; clear HX; have HK2 := Lib.hid (ten11 (HE2.out.c11 (.tail _ (.tail _ (.tail _ (.tail _ (.tail _ (.tail _ (.head _)))))))) (HE2.out.c11 (.tail _ (.tail _ (.tail _ (.tail _ (.tail _ (.tail _ (.tail _ (.tail _ (.tail _ (.tail _ (.tail _ (.tail _ (.tail _ (.tail _ (.tail _ (.tail _ (.tail _ (.tail _ (.tail _ (.tail _ (.head _)))))))))))))))))))))))))
  clear H b30_0 b30_1 b30_2 b30_3 b30_4 b30_5 b30_6 b30_7 b30_8 b30_9 b30_10 b31_0 b31_1 b31_2 b31_3 b31_4 b31_5 b31_6 b31_7 b31_8 b31_9 b31_10 b32_0 b32_1 b32_2 b32_3 b32_4 b32_5 b32_6 b32_7 b32_8 b32_9 b32_10 b33_0 b33_1 b33_2 b33_3 b33_4 b33_5 b33_6 b33_7 b33_8 b33_9 b33_10
  have H := HE2.out
  clear HE0 HK0 HE1 HK1 HE2 HK2
  replace H := H.sub (qs := [segX 51 w5.heap.size [.int .i64 x1_0, .int .i64 x1_1, .int .i64 x1_2, (.slice A5_3' l1_3.length c5_3'), (.slice A5_4' l1_4.length c5_4'), .int .i64 x1_5, .int .i64 x1_6, (.slice A5_7' l1_7.length c5_7'), (.slice A5_8' l1_8.length c5_8'), (.slice A5_9' l1_9.length c5_9'), (.slice A5_10' l1_10.length c5_10')], segB 5 (.slice A5_3' l1_3.length c5_3') l1_3, segB 5 (.slice A5_4' l1_4.length c5_4') l1_4, segB 5 (.slice A5_7' l1_7.length c5_7') l1_7, segB 5 (.slice A5_8' l1_8.length c5_8') l1_8, segS 26 5 (.slice A5_9' l1_9.length c5_9') vs5_9 l1_9, segS 26 5 (.slice A5_10' l1_10.length c5_10') vs5_10 l1_10, segX 51 w4.heap.size [.int .i64 x0_0, .int .i64 x0_1, .int .i64 x0_2, (.slice A4_3' l0_3.length c4_3'), (.slice A4_4' l0_4.length c4_4'), .int .i64 x0_5, .int .i64 x0_6, (.slice A4_7' l0_7.length c4_7'), (.slice A4_8' l0_8.length c4_8'), (.slice A4_9' l0_9.length c4_9'), (.slice A4_10' l0_10.length c4_10')], segB 5 (.slice A4_3' l0_3.length c4_3') l0_3, segB 5 (.slice A4_4' l0_4.length c4_4') l0_4, segB 5 (.slice A4_7' l0_7.length c4_7') l0_7, segB 5 (.slice A4_8' l0_8.length c4_8') l0_8, segS 26 5 (.slice A4_9' l0_9.length c4_9') vs4_9 l0_9, segS 26 5 (.slice A4_10' l0_10.length c4_10') vs4_10 l0_10, segX 45 (W.heap.size + 1) [.int .i64 x1_0, .int .i64 x1_1, .int .i64 x1_2, (.slice A1_3 l1_3.length c1_3), (.slice A1_4 l1_4.length c1_4), .int .i64 x1_5, .int .i64 x1_6, (.slice A1_7 l1_7.length c1_7), (.slice A1_8 l1_8.length c1_8), (.slice A1_9 l1_9.length c1_9), (.slice A1_10 l1_10.length c1_10)], segX 45 W.heap.size [.int .i64 x0_0, .int .i64 x0_1, .int .i64 x0_2, (.slice A0_3 l0_3.length c0_3), (.slice A0_4 l0_4.length c0_4), .int .i64 x0_5, .int .i64 x0_6, (.slice A0_7 l0_7.length c0_7), (.slice A0_8 l0_8.length c0_8), (.slice A0_9 l0_9.length c0_9), (.slice A0_10 l0_10.length c0_10)]]) (.cons _ (.cons _ (.cons _ (.cons _ (.cons _ (.cons _ (.cons_cons _ (.cons_cons _ (.cons_cons _ (.cons_cons _ (.cons_cons _ (.cons_cons _ (.cons_cons _ (.cons_cons _ (.cons_cons _ (.cons_cons _ (.cons_cons _ (.cons_cons _ (.cons_cons _ (.cons_cons _ (.cons_cons _ (.cons_cons _ .slnil))))))))))))))))))))))
  obtain ⟨b34_0, b34_1, b34_2, b34_3, b34_4, b34_5, b34_6, b34_7, b34_8, b34_9, b34_10⟩ := H.c11 (.head _)
  obtain ⟨b35_0, b35_1, b35_2, b35_3, b35_4, b35_5, b35_6, b35_7, b35_8, b35_9, b35_10⟩ := H.c11 (.tail _ (.tail _ (.tail _ (.tail _ (.tail _ (.tail _ (.tail _ (.head _))))))))
  obtain ⟨b36_0, b36_1, b36_2, b36_3, b36_4, b36_5, b36_6, b36_7, b36_8, b36_9, b36_10⟩ := H.c11 (.tail _ (.tail _ (.tail _ (.tail _ (.tail _ (.tail _ (.tail _ (.tail _ (.tail _ (.tail _ (.tail _ (.tail _ (.tail _ (.tail _ (.head _)))))))))))))))
  obtain ⟨b37_0, b37_1, b37_2, b37_3, b37_4, b37_5, b37_6, b37_7, b37_8, b37_9, b37_10⟩ := H.c11 (.tail _ (.tail _ (.tail _ (.tail _ (.tail _ (.tail _ (.tail _ (.tail _ (.tail _ (.tail _ (.tail _ (.tail _ (.tail _ (.tail _ (.tail _ (.head _))))))))))))))))
  go_wp2_with fail
  go_ret
  exact ⟨rfl, by have hfin := H.bel; simpa using hfin⟩
end Go.Proofs.Ytdoaikanaodefaa
