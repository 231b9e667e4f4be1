import Derived.Test.YtdoaikanaodefaaGreatDoorGetBlockS
import Derived.Test.YtdoaikanaodefaaGreatDoorGetBlockP
import Derived.Deep.RegionHeld3
/- GetBlock of both sides, in the words that the walk of its law asks. -/
namespace Go.Proofs.YtdoaikanaodefaaGreatDoor
open Go.ChangeShapes Go.WideShapes Go.ChangeAt Go.RowKit

theorem specGetBlockL_any (a b c d e p : Int) (v : Value) (l : List UInt8) (w : World) (hv : Sp w w.heap.size v l) (hl : l.length ≤ 1073741824) :
    Calls Tryz.prog 18 #[.agg #[.int .i64 a, .int .i64 b, .int .i64 c, .int .i64 d, .int .i64 e], v, .int .i64 p] w (FreshG3 w (gkX (bkAt l a b c p (limE a b c d e))) (gkY (bkAt l a b c p (limE a b c d e))) (gkZ (bkAt l a b c p (limE a b c d e))) (gkQX (bkAt l a b c p (limE a b c d e))) (gkQY (bkAt l a b c p (limE a b c d e))) (gkM (bkAt l a b c p (limE a b c d e))) (gkK (bkAt l a b c p (limE a b c d e))) (gkQM (bkAt l a b c p (limE a b c d e))) (gkQK (bkAt l a b c p (limE a b c d e))) (gkQL (bkAt l a b c p (limE a b c d e))) (gkT (bkAt l a b c p (limE a b c d e))) (gkP (bkAt l a b c p (limE a b c d e))) (bkAt l a b c p (limE a b c d e)).e) := specGetBlock_any a b c d e p v l w hv hl
theorem implGetBlockL_any (a b c d e p : Int) (v : Value) (l : List UInt8) (w : World) (hv : Sp w w.heap.size v l) (hl : l.length ≤ 1073741824) (hp : p ≤ 9223372036854775807) (hgI : Glob w 0 initW) (hgG : Glob w 1 kk) :
    Calls Tryz.prog 19 #[.agg #[.int .i64 a, .int .i64 b, .int .i64 c, .int .i64 d, .int .i64 e], v, .int .i64 p] w (FreshG3 w (gkX (bkAt l a b c p (limE a b c d e))) (gkY (bkAt l a b c p (limE a b c d e))) (gkZ (bkAt l a b c p (limE a b c d e))) (gkQX (bkAt l a b c p (limE a b c d e))) (gkQY (bkAt l a b c p (limE a b c d e))) (gkM (bkAt l a b c p (limE a b c d e))) (gkK (bkAt l a b c p (limE a b c d e))) (gkQM (bkAt l a b c p (limE a b c d e))) (gkQK (bkAt l a b c p (limE a b c d e))) (gkQL (bkAt l a b c p (limE a b c d e))) (gkT (bkAt l a b c p (limE a b c d e))) (gkP (bkAt l a b c p (limE a b c d e))) (bkAt l a b c p (limE a b c d e)).e) := implGetBlock_any a b c d e p v l w hv hl hp lim_most hgI hgG
end Go.Proofs.YtdoaikanaodefaaGreatDoor
/- The walk of the exact law of GetBlock: for every argument the law answers true and leaves all memory that was there as it was. -/
namespace Go.Proofs.YtdoaikanaodefaaGreatDoor
open Go.ChangeShapes Go.WideShapes Go.ChangeAt Go.RowKit

set_option maxRecDepth 100000 in
set_option maxHeartbeats 8000000 in
theorem GetBlock_walk (x0_0 x0_1 x0_2 x0_3 x0_4 : Int) (v1 : Value) (l1 : List UInt8) (n2 : Int) (W : World) (h1 : Sl W W.heap.size v1 l1) (hw2 : n2 ≤ 9223372036854775807) (hgI : Glob W 0 initW) (hg : Glob W 1 kk) :
    Calls Tryz.prog 4 #[.agg #[.int .i64 x0_0, .int .i64 x0_1, .int .i64 x0_2, .int .i64 x0_3, .int .i64 x0_4], v1, .int .i64 n2] W (Yes W) := by
  have hs1 := h1
  obtain ⟨A1, c1, rfl, p1, q1, r1, z1⟩ := h1
  unfold maxLen at q1
  clear r1 z1
  by_cases hbig1 : 1048576 < l1.length
  · have hb : (1048576 : Int) < (l1.length : Int) := by omega
    go_enter Tryz.func4, Tryz.ntmps4
    go_wp2
    go_ret
    exact ⟨rfl, ((Below.refl _ _).alloc (by simp <;> omega) _)⟩
  have hb1 : ¬ ((1048576 : Int) < (l1.length : Int)) := by omega
  obtain ⟨X0, hR⟩ : ∃ R, R = gkX (bkAt l1 x0_0 x0_1 x0_2 n2 (limE x0_0 x0_1 x0_2 x0_3 x0_4)) := ⟨_, rfl⟩
  have HR0 := Lib.hid hR
  clear hR
  have hxx0 : (X0 != X0) = false := by simp
  obtain ⟨X1, hR⟩ : ∃ R, R = gkY (bkAt l1 x0_0 x0_1 x0_2 n2 (limE x0_0 x0_1 x0_2 x0_3 x0_4)) := ⟨_, rfl⟩
  have HR1 := Lib.hid hR
  clear hR
  have hxx1 : (X1 != X1) = false := by simp
  obtain ⟨X2, hR⟩ : ∃ R, R = gkZ (bkAt l1 x0_0 x0_1 x0_2 n2 (limE x0_0 x0_1 x0_2 x0_3 x0_4)) := ⟨_, rfl⟩
  have HR2 := Lib.hid hR
  clear hR
  have hxx2 : (X2 != X2) = false := by simp
  have hp3 : (gkM (bkAt l1 x0_0 x0_1 x0_2 n2 (limE x0_0 x0_1 x0_2 x0_3 x0_4))).length ≤ 4194304 := by have := gkM_len l1 x0_0 x0_1 x0_2 n2 (limE x0_0 x0_1 x0_2 x0_3 x0_4); have := gkK_len l1 x0_0 x0_1 x0_2 n2 (limE x0_0 x0_1 x0_2 x0_3 x0_4); have := gkQM_len l1 x0_0 x0_1 x0_2 n2 (limE x0_0 x0_1 x0_2 x0_3 x0_4); have := gkQK_len l1 x0_0 x0_1 x0_2 n2 (limE x0_0 x0_1 x0_2 x0_3 x0_4); have := gkQL_sum l1 x0_0 x0_1 x0_2 n2 (limE x0_0 x0_1 x0_2 x0_3 x0_4); have := gkT_sum l1 x0_0 x0_1 x0_2 x0_3 x0_4 n2; omega
  obtain ⟨R3, hR⟩ : ∃ R, R = gkM (bkAt l1 x0_0 x0_1 x0_2 n2 (limE x0_0 x0_1 x0_2 x0_3 x0_4)) := ⟨_, rfl⟩
  rw [← hR] at hp3
  have HR3 := Lib.hid hR
  clear hR
  have hp4 : (gkK (bkAt l1 x0_0 x0_1 x0_2 n2 (limE x0_0 x0_1 x0_2 x0_3 x0_4))).length ≤ 4194304 := by have := gkM_len l1 x0_0 x0_1 x0_2 n2 (limE x0_0 x0_1 x0_2 x0_3 x0_4); have := gkK_len l1 x0_0 x0_1 x0_2 n2 (limE x0_0 x0_1 x0_2 x0_3 x0_4); have := gkQM_len l1 x0_0 x0_1 x0_2 n2 (limE x0_0 x0_1 x0_2 x0_3 x0_4); have := gkQK_len l1 x0_0 x0_1 x0_2 n2 (limE x0_0 x0_1 x0_2 x0_3 x0_4); have := gkQL_sum l1 x0_0 x0_1 x0_2 n2 (limE x0_0 x0_1 x0_2 x0_3 x0_4); have := gkT_sum l1 x0_0 x0_1 x0_2 x0_3 x0_4 n2; omega
  obtain ⟨R4, hR⟩ : ∃ R, R = gkK (bkAt l1 x0_0 x0_1 x0_2 n2 (limE x0_0 x0_1 x0_2 x0_3 x0_4)) := ⟨_, rfl⟩
  rw [← hR] at hp4
  have HR4 := Lib.hid hR
  clear hR
  obtain ⟨X5, hR⟩ : ∃ R, R = gkQX (bkAt l1 x0_0 x0_1 x0_2 n2 (limE x0_0 x0_1 x0_2 x0_3 x0_4)) := ⟨_, rfl⟩
  have HR5 := Lib.hid hR
  clear hR
  have hxx5 : (X5 != X5) = false := by simp
  obtain ⟨X6, hR⟩ : ∃ R, R = gkQY (bkAt l1 x0_0 x0_1 x0_2 n2 (limE x0_0 x0_1 x0_2 x0_3 x0_4)) := ⟨_, rfl⟩
  have HR6 := Lib.hid hR
  clear hR
  have hxx6 : (X6 != X6) = false := by simp
  have hp7 : (gkQM (bkAt l1 x0_0 x0_1 x0_2 n2 (limE x0_0 x0_1 x0_2 x0_3 x0_4))).length ≤ 4194304 := by have := gkM_len l1 x0_0 x0_1 x0_2 n2 (limE x0_0 x0_1 x0_2 x0_3 x0_4); have := gkK_len l1 x0_0 x0_1 x0_2 n2 (limE x0_0 x0_1 x0_2 x0_3 x0_4); have := gkQM_len l1 x0_0 x0_1 x0_2 n2 (limE x0_0 x0_1 x0_2 x0_3 x0_4); have := gkQK_len l1 x0_0 x0_1 x0_2 n2 (limE x0_0 x0_1 x0_2 x0_3 x0_4); have := gkQL_sum l1 x0_0 x0_1 x0_2 n2 (limE x0_0 x0_1 x0_2 x0_3 x0_4); have := gkT_sum l1 x0_0 x0_1 x0_2 x0_3 x0_4 n2; omega
  obtain ⟨R7, hR⟩ : ∃ R, R = gkQM (bkAt l1 x0_0 x0_1 x0_2 n2 (limE x0_0 x0_1 x0_2 x0_3 x0_4)) := ⟨_, rfl⟩
  rw [← hR] at hp7
  have HR7 := Lib.hid hR
  clear hR
  have hp8 : (gkQK (bkAt l1 x0_0 x0_1 x0_2 n2 (limE x0_0 x0_1 x0_2 x0_3 x0_4))).length ≤ 4194304 := by have := gkM_len l1 x0_0 x0_1 x0_2 n2 (limE x0_0 x0_1 x0_2 x0_3 x0_4); have := gkK_len l1 x0_0 x0_1 x0_2 n2 (limE x0_0 x0_1 x0_2 x0_3 x0_4); have := gkQM_len l1 x0_0 x0_1 x0_2 n2 (limE x0_0 x0_1 x0_2 x0_3 x0_4); have := gkQK_len l1 x0_0 x0_1 x0_2 n2 (limE x0_0 x0_1 x0_2 x0_3 x0_4); have := gkQL_sum l1 x0_0 x0_1 x0_2 n2 (limE x0_0 x0_1 x0_2 x0_3 x0_4); have := gkT_sum l1 x0_0 x0_1 x0_2 x0_3 x0_4 n2; omega
  obtain ⟨R8, hR⟩ : ∃ R, R = gkQK (bkAt l1 x0_0 x0_1 x0_2 n2 (limE x0_0 x0_1 x0_2 x0_3 x0_4)) := ⟨_, rfl⟩
  rw [← hR] at hp8
  have HR8 := Lib.hid hR
  clear hR
  have hp9 : sumL (gkQL (bkAt l1 x0_0 x0_1 x0_2 n2 (limE x0_0 x0_1 x0_2 x0_3 x0_4))) ≤ 4194304 := by have := gkM_len l1 x0_0 x0_1 x0_2 n2 (limE x0_0 x0_1 x0_2 x0_3 x0_4); have := gkK_len l1 x0_0 x0_1 x0_2 n2 (limE x0_0 x0_1 x0_2 x0_3 x0_4); have := gkQM_len l1 x0_0 x0_1 x0_2 n2 (limE x0_0 x0_1 x0_2 x0_3 x0_4); have := gkQK_len l1 x0_0 x0_1 x0_2 n2 (limE x0_0 x0_1 x0_2 x0_3 x0_4); have := gkQL_sum l1 x0_0 x0_1 x0_2 n2 (limE x0_0 x0_1 x0_2 x0_3 x0_4); have := gkT_sum l1 x0_0 x0_1 x0_2 x0_3 x0_4 n2; omega
  obtain ⟨R9, hR⟩ : ∃ R, R = gkQL (bkAt l1 x0_0 x0_1 x0_2 n2 (limE x0_0 x0_1 x0_2 x0_3 x0_4)) := ⟨_, rfl⟩
  rw [← hR] at hp9
  have HR9 := Lib.hid hR
  clear hR
  have hp10 : sumL (gkT (bkAt l1 x0_0 x0_1 x0_2 n2 (limE x0_0 x0_1 x0_2 x0_3 x0_4))) ≤ 4194304 := by have := gkM_len l1 x0_0 x0_1 x0_2 n2 (limE x0_0 x0_1 x0_2 x0_3 x0_4); have := gkK_len l1 x0_0 x0_1 x0_2 n2 (limE x0_0 x0_1 x0_2 x0_3 x0_4); have := gkQM_len l1 x0_0 x0_1 x0_2 n2 (limE x0_0 x0_1 x0_2 x0_3 x0_4); have := gkQK_len l1 x0_0 x0_1 x0_2 n2 (limE x0_0 x0_1 x0_2 x0_3 x0_4); have := gkQL_sum l1 x0_0 x0_1 x0_2 n2 (limE x0_0 x0_1 x0_2 x0_3 x0_4); have := gkT_sum l1 x0_0 x0_1 x0_2 x0_3 x0_4 n2; omega
  obtain ⟨R10, hR⟩ : ∃ R, R = gkT (bkAt l1 x0_0 x0_1 x0_2 n2 (limE x0_0 x0_1 x0_2 x0_3 x0_4)) := ⟨_, rfl⟩
  rw [← hR] at hp10
  have HR10 := Lib.hid hR
  clear hR
  obtain ⟨b0, hB⟩ : ∃ b, b = gkP (bkAt l1 x0_0 x0_1 x0_2 n2 (limE x0_0 x0_1 x0_2 x0_3 x0_4)) := ⟨_, rfl⟩
  have HB0 := Lib.hid hB
  clear hB
  have hbb0 : (b0 != b0) = false := by simp
  obtain ⟨b1, hB⟩ : ∃ b, b = (bkAt l1 x0_0 x0_1 x0_2 n2 (limE x0_0 x0_1 x0_2 x0_3 x0_4)).e := ⟨_, rfl⟩
  have HB1 := Lib.hid hB
  clear hB
  have hbb1 : (b1 != b1) = false := by simp
  have H : InvF W W [] := InvF.start W
  replace H := H.newG 23 #[.int .i64 x0_0, .int .i64 x0_1, .int .i64 x0_2, .int .i64 x0_3, .int .i64 x0_4] (W.heap.size)
  replace H : InvF W _ [segX 23 W.heap.size [.int .i64 x0_0, .int .i64 x0_1, .int .i64 x0_2, .int .i64 x0_3, .int .i64 x0_4]] := H
  go_enter Tryz.func4, Tryz.ntmps4
  obtain ⟨b1_0, b1_1, b1_2, b1_3, b1_4⟩ := H.c5 (.head _)
  go_wp2_with fail
  refine (toLimits_any x0_0 x0_1 x0_2 x0_3 x0_4   _  ).mono ?_
  rintro e w1 ⟨rfl, hb⟩
  replace H := H.up hb
  clear hb
  clear b1_0 b1_1 b1_2 b1_3 b1_4
  obtain ⟨b2_0, b2_1, b2_2, b2_3, b2_4⟩ := H.c5 (.head _)
  go_wp2_with fail
  refine (toByteS_any _ l1 _ (hs1.up H.bel) (by omega)).mono ?_
  rintro e w2 ⟨u2, rfl, ho, hb⟩
  replace H := H.moreB ho hb
  clear ho hb
  clear b2_0 b2_1 b2_2 b2_3 b2_4
  obtain ⟨b3_0, b3_1, b3_2, b3_3, b3_4⟩ := H.c5 (.tail _ (.head _))
  go_wp2_with fail
  refine (specGetBlockL_any x0_0 x0_1 x0_2 x0_3 x0_4 n2 _ l1 _  (H.ownB 5 (.head _)).sp (by omega) ).mono ?_
  rw [← HR0.out, ← HR1.out, ← HR2.out, ← HR3.out, ← HR4.out, ← HR5.out, ← HR6.out, ← HR7.out, ← HR8.out, ← HR9.out, ← HR10.out, ← HB0.out, ← HB1.out]
  rintro e w3 ⟨u3_3, u3_4, u3_7, u3_8, u3_9, u3_10, row3_9, vs3_9, row3_10, vs3_10, rfl, hv3_9, hr3_9, hv3_10, hr3_10, K⟩
  have HV3_9 := Lib.hid hv3_9
  have HV3_10 := Lib.hid hv3_10
  have HR3_9 := Lib.hid hr3_9
  have HR3_10 := Lib.hid hr3_10
  obtain ⟨A3_3', c3_3', rfl⟩ := K.openB' (.head _)
  obtain ⟨A3_4', c3_4', rfl⟩ := K.openB' (.tail _ (.head _))
  obtain ⟨A3_7', c3_7', rfl⟩ := K.openB' (.tail _ (.tail _ (.head _)))
  obtain ⟨A3_8', c3_8', rfl⟩ := K.openB' (.tail _ (.tail _ (.tail _ (.head _))))
  obtain ⟨A3_9', c3_9', rfl⟩ := K.openT hv3_9 hr3_9 
  clear hv3_9 hr3_9
  obtain ⟨A3_10', c3_10', rfl⟩ := K.openT hv3_10 hr3_10 
  clear hv3_10 hr3_10
  have HT := H.moreF K
  clear K
  replace H : InvF W w3 [segB 5 (.slice A3_3' R3.length c3_3') R3, segB 5 (.slice A3_4' R4.length c3_4') R4, segB 5 (.slice A3_7' R7.length c3_7') R7, segB 5 (.slice A3_8' R8.length c3_8') R8, (row3_9 :: rowsS 5 vs3_9 R9), (row3_10 :: rowsS 5 vs3_10 R10), segB 5 u2 l1, segX 23 W.heap.size [.int .i64 x0_0, .int .i64 x0_1, .int .i64 x0_2, .int .i64 x0_3, .int .i64 x0_4]] := HT
  clear HT
  replace H := H.sub (qs := [segB 5 (.slice A3_3' R3.length c3_3') R3, segB 5 (.slice A3_4' R4.length c3_4') R4, segB 5 (.slice A3_7' R7.length c3_7') R7, segB 5 (.slice A3_8' R8.length c3_8') R8, (row3_9 :: rowsS 5 vs3_9 R9), (row3_10 :: rowsS 5 vs3_10 R10), segX 23 W.heap.size [.int .i64 x0_0, .int .i64 x0_1, .int .i64 x0_2, .int .i64 x0_3, .int .i64 x0_4]]) (.cons_cons _ (.cons_cons _ (.cons_cons _ (.cons_cons _ (.cons_cons _ (.cons_cons _ (.cons _ (.cons_cons _ .slnil))))))))
  replace H := H.newX 42 #[.int .i64 X0, .int .i64 X1, .int .i64 X2, (.slice A3_3' R3.length c3_3'), (.slice A3_4' R4.length c3_4'), .int .i64 X5, .int .i64 X6, (.slice A3_7' R7.length c3_7'), (.slice A3_8' R8.length c3_8'), (.slice A3_9' R9.length c3_9'), (.slice A3_10' R10.length c3_10')]
  replace H : InvF W _ [segX 42 w3.heap.size [.int .i64 X0, .int .i64 X1, .int .i64 X2, (.slice A3_3' R3.length c3_3'), (.slice A3_4' R4.length c3_4'), .int .i64 X5, .int .i64 X6, (.slice A3_7' R7.length c3_7'), (.slice A3_8' R8.length c3_8'), (.slice A3_9' R9.length c3_9'), (.slice A3_10' R10.length c3_10')], segB 5 (.slice A3_3' R3.length c3_3') R3, segB 5 (.slice A3_4' R4.length c3_4') R4, segB 5 (.slice A3_7' R7.length c3_7') R7, segB 5 (.slice A3_8' R8.length c3_8') R8, (row3_9 :: rowsS 5 vs3_9 R9), (row3_10 :: rowsS 5 vs3_10 R10), segX 23 W.heap.size [.int .i64 x0_0, .int .i64 x0_1, .int .i64 x0_2, .int .i64 x0_3, .int .i64 x0_4]] := H
  clear b3_0 b3_1 b3_2 b3_3 b3_4
  obtain ⟨b4_0, b4_1, b4_2, b4_3, b4_4, b4_5, b4_6, b4_7, b4_8, b4_9, b4_10⟩ := H.c11 (.head _)
  obtain ⟨b5_0, b5_1, b5_2, b5_3, b5_4⟩ := H.c5 (.tail _ (.tail _ (.tail _ (.tail _ (.tail _ (.tail _ (.tail _ (.head _))))))))
  go_wp2_with fail
  refine (toByteS_any _ l1 _ (hs1.up H.bel) (by omega)).mono ?_
  rintro e w4 ⟨u4, rfl, ho, hb⟩
  replace H := H.moreB ho hb
  clear ho hb
  clear b4_0 b4_1 b4_2 b4_3 b4_4 b4_5 b4_6 b4_7 b4_8 b4_9 b4_10 b5_0 b5_1 b5_2 b5_3 b5_4
  obtain ⟨b6_0, b6_1, b6_2, b6_3, b6_4, b6_5, b6_6, b6_7, b6_8, b6_9, b6_10⟩ := H.c11 (.tail _ (.head _))
  obtain ⟨b7_0, b7_1, b7_2, b7_3, b7_4⟩ := H.c5 (.tail _ (.tail _ (.tail _ (.tail _ (.tail _ (.tail _ (.tail _ (.tail _ (.head _)))))))))
  go_wp2_with fail
  refine (toLimits_any x0_0 x0_1 x0_2 x0_3 x0_4   _  ).mono ?_
  rintro e w5 ⟨rfl, hb⟩
  replace H := H.up hb
  clear hb
  clear b6_0 b6_1 b6_2 b6_3 b6_4 b6_5 b6_6 b6_7 b6_8 b6_9 b6_10 b7_0 b7_1 b7_2 b7_3 b7_4
  obtain ⟨b8_0, b8_1, b8_2, b8_3, b8_4, b8_5, b8_6, b8_7, b8_8, b8_9, b8_10⟩ := H.c11 (.tail _ (.head _))
  obtain ⟨b9_0, b9_1, b9_2, b9_3, b9_4⟩ := H.c5 (.tail _ (.tail _ (.tail _ (.tail _ (.tail _ (.tail _ (.tail _ (.tail _ (.head _)))))))))
  go_wp2_with fail
  refine (implGetBlockL_any x0_0 x0_1 x0_2 x0_3 x0_4 n2 _ l1 _  (H.ownB 5 (.head _)).sp (by omega) hw2 (hgI.up H.bel) (hg.up H.bel)).mono ?_
  rw [← HR0.out, ← HR1.out, ← HR2.out, ← HR3.out, ← HR4.out, ← HR5.out, ← HR6.out, ← HR7.out, ← HR8.out, ← HR9.out, ← HR10.out, ← HB0.out, ← HB1.out]
  rintro e w6 ⟨u6_3, u6_4, u6_7, u6_8, u6_9, u6_10, row6_9, vs6_9, row6_10, vs6_10, rfl, hv6_9, hr6_9, hv6_10, hr6_10, K⟩
  have HV6_9 := Lib.hid hv6_9
  have HV6_10 := Lib.hid hv6_10
  have HR6_9 := Lib.hid hr6_9
  have HR6_10 := Lib.hid hr6_10
  obtain ⟨A6_3', c6_3', rfl⟩ := K.openB' (.head _)
  obtain ⟨A6_4', c6_4', rfl⟩ := K.openB' (.tail _ (.head _))
  obtain ⟨A6_7', c6_7', rfl⟩ := K.openB' (.tail _ (.tail _ (.head _)))
  obtain ⟨A6_8', c6_8', rfl⟩ := K.openB' (.tail _ (.tail _ (.tail _ (.head _))))
  obtain ⟨A6_9', c6_9', rfl⟩ := K.openT hv6_9 hr6_9 
  clear hv6_9 hr6_9
  obtain ⟨A6_10', c6_10', rfl⟩ := K.openT hv6_10 hr6_10 
  clear hv6_10 hr6_10
  have HT := H.moreF K
  clear K
  replace H : InvF W w6 [segB 5 (.slice A6_3' R3.length c6_3') R3, segB 5 (.slice A6_4' R4.length c6_4') R4, segB 5 (.slice A6_7' R7.length c6_7') R7, segB 5 (.slice A6_8' R8.length c6_8') R8, (row6_9 :: rowsS 5 vs6_9 R9), (row6_10 :: rowsS 5 vs6_10 R10), segB 5 u4 l1, segX 42 w3.heap.size [.int .i64 X0, .int .i64 X1, .int .i64 X2, (.slice A3_3' R3.length c3_3'), (.slice A3_4' R4.length c3_4'), .int .i64 X5, .int .i64 X6, (.slice A3_7' R7.length c3_7'), (.slice A3_8' R8.length c3_8'), (.slice A3_9' R9.length c3_9'), (.slice A3_10' R10.length c3_10')], segB 5 (.slice A3_3' R3.length c3_3') R3, segB 5 (.slice A3_4' R4.length c3_4') R4, segB 5 (.slice A3_7' R7.length c3_7') R7, segB 5 (.slice A3_8' R8.length c3_8') R8, (row3_9 :: rowsS 5 vs3_9 R9), (row3_10 :: rowsS 5 vs3_10 R10), segX 23 W.heap.size [.int .i64 x0_0, .int .i64 x0_1, .int .i64 x0_2, .int .i64 x0_3, .int .i64 x0_4]] := HT
  clear HT
  replace H := H.newX 42 #[.int .i64 X0, .int .i64 X1, .int .i64 X2, (.slice A6_3' R3.length c6_3'), (.slice A6_4' R4.length c6_4'), .int .i64 X5, .int .i64 X6, (.slice A6_7' R7.length c6_7'), (.slice A6_8' R8.length c6_8'), (.slice A6_9' R9.length c6_9'), (.slice A6_10' R10.length c6_10')]
  replace H : InvF W _ [segX 42 w6.heap.size [.int .i64 X0, .int .i64 X1, .int .i64 X2, (.slice A6_3' R3.length c6_3'), (.slice A6_4' R4.length c6_4'), .int .i64 X5, .int .i64 X6, (.slice A6_7' R7.length c6_7'), (.slice A6_8' R8.length c6_8'), (.slice A6_9' R9.length c6_9'), (.slice A6_10' R10.length c6_10')], segB 5 (.slice A6_3' R3.length c6_3') R3, segB 5 (.slice A6_4' R4.length c6_4') R4, segB 5 (.slice A6_7' R7.length c6_7') R7, segB 5 (.slice A6_8' R8.length c6_8') R8, (row6_9 :: rowsS 5 vs6_9 R9), (row6_10 :: rowsS 5 vs6_10 R10), segB 5 u4 l1, segX 42 w3.heap.size [.int .i64 X0, .int .i64 X1, .int .i64 X2, (.slice A3_3' R3.length c3_3'), (.slice A3_4' R4.length c3_4'), .int .i64 X5, .int .i64 X6, (.slice A3_7' R7.length c3_7'), (.slice A3_8' R8.length c3_8'), (.slice A3_9' R9.length c3_9'), (.slice A3_10' R10.length c3_10')], segB 5 (.slice A3_3' R3.length c3_3') R3, segB 5 (.slice A3_4' R4.length c3_4') R4, segB 5 (.slice A3_7' R7.length c3_7') R7, segB 5 (.slice A3_8' R8.length c3_8') R8, (row3_9 :: rowsS 5 vs3_9 R9), (row3_10 :: rowsS 5 vs3_10 R10), segX 23 W.heap.size [.int .i64 x0_0, .int .i64 x0_1, .int .i64 x0_2, .int .i64 x0_3, .int .i64 x0_4]] := H
  clear b8_0 b8_1 b8_2 b8_3 b8_4 b8_5 b8_6 b8_7 b8_8 b8_9 b8_10 b9_0 b9_1 b9_2 b9_3 b9_4
  obtain ⟨b10_0, b10_1, b10_2, b10_3, b10_4, b10_5, b10_6, b10_7, b10_8, b10_9, b10_10⟩ := H.c11 (.head _)
  obtain ⟨b11_0, b11_1, b11_2, b11_3, b11_4, b11_5, b11_6, b11_7, b11_8, b11_9, b11_10⟩ := H.c11 (.tail _ (.tail _ (.tail _ (.tail _ (.tail _ (.tail _ (.tail _ (.tail _ (.head _)))))))))
  obtain ⟨b12_0, b12_1, b12_2, b12_3, b12_4⟩ := H.c5 (.tail _ (.tail _ (.tail _ (.tail _ (.tail _ (.tail _ (.tail _ (.tail _ (.tail _ (.tail _ (.tail _ (.tail _ (.tail _ (.tail _ (.tail _ (.head _))))))))))))))))
  go_wp2_with fail
  refine (eqBlock_any X0 X1 X2 X5 X6 _ _ _ _ _ _ _ _ _ _ _ _ R3 R4 R7 R8 R9 R10 _ (H.slB 5 (.tail _ (.head _))) (H.slB 5 (.tail _ (.tail _ (.head _)))) (H.slB 5 (.tail _ (.tail _ (.tail _ (.head _))))) (H.slB 5 (.tail _ (.tail _ (.tail _ (.tail _ (.head _)))))) (H.slT (E := 5) HV6_9.out HR6_9.out (.tail _ (.tail _ (.tail _ (.tail _ (.tail _ (.head _))))))) (H.slT (E := 5) HV6_10.out HR6_10.out (.tail _ (.tail _ (.tail _ (.tail _ (.tail _ (.tail _ (.head _)))))))) (H.slB 5 (.tail _ (.tail _ (.tail _ (.tail _ (.tail _ (.tail _ (.tail _ (.tail _ (.tail _ (.head _))))))))))) (H.slB 5 (.tail _ (.tail _ (.tail _ (.tail _ (.tail _ (.tail _ (.tail _ (.tail _ (.tail _ (.tail _ (.head _)))))))))))) (H.slB 5 (.tail _ (.tail _ (.tail _ (.tail _ (.tail _ (.tail _ (.tail _ (.tail _ (.tail _ (.tail _ (.tail _ (.head _))))))))))))) (H.slB 5 (.tail _ (.tail _ (.tail _ (.tail _ (.tail _ (.tail _ (.tail _ (.tail _ (.tail _ (.tail _ (.tail _ (.tail _ (.head _)))))))))))))) (H.slT (E := 5) HV3_9.out HR3_9.out (.tail _ (.tail _ (.tail _ (.tail _ (.tail _ (.tail _ (.tail _ (.tail _ (.tail _ (.tail _ (.tail _ (.tail _ (.tail _ (.head _))))))))))))))) (H.slT (E := 5) HV3_10.out HR3_10.out (.tail _ (.tail _ (.tail _ (.tail _ (.tail _ (.tail _ (.tail _ (.tail _ (.tail _ (.tail _ (.tail _ (.tail _ (.tail _ (.tail _ (.head _))))))))))))))))).mono ?_
  rintro e w7 ⟨rfl, hb⟩
  replace H := H.up hb
  clear hb
  clear b10_0 b10_1 b10_2 b10_3 b10_4 b10_5 b10_6 b10_7 b10_8 b10_9 b10_10 b11_0 b11_1 b11_2 b11_3 b11_4 b11_5 b11_6 b11_7 b11_8 b11_9 b11_10 b12_0 b12_1 b12_2 b12_3 b12_4
  obtain ⟨b13_0, b13_1, b13_2, b13_3, b13_4, b13_5, b13_6, b13_7, b13_8, b13_9, b13_10⟩ := H.c11 (.head _)
  obtain ⟨b14_0, b14_1, b14_2, b14_3, b14_4, b14_5, b14_6, b14_7, b14_8, b14_9, b14_10⟩ := H.c11 (.tail _ (.tail _ (.tail _ (.tail _ (.tail _ (.tail _ (.tail _ (.tail _ (.head _)))))))))
  obtain ⟨b15_0, b15_1, b15_2, b15_3, b15_4⟩ := H.c5 (.tail _ (.tail _ (.tail _ (.tail _ (.tail _ (.tail _ (.tail _ (.tail _ (.tail _ (.tail _ (.tail _ (.tail _ (.tail _ (.tail _ (.tail _ (.head _))))))))))))))))
  go_wp2_with fail
  refine (toByteS_any _ l1 _ (hs1.up H.bel) (by omega)).mono ?_
  rintro e w8 ⟨u8, rfl, ho, hb⟩
  replace H := H.moreB ho hb
  clear ho hb
  clear b13_0 b13_1 b13_2 b13_3 b13_4 b13_5 b13_6 b13_7 b13_8 b13_9 b13_10 b14_0 b14_1 b14_2 b14_3 b14_4 b14_5 b14_6 b14_7 b14_8 b14_9 b14_10 b15_0 b15_1 b15_2 b15_3 b15_4
  obtain ⟨b16_0, b16_1, b16_2, b16_3, b16_4, b16_5, b16_6, b16_7, b16_8, b16_9, b16_10⟩ := H.c11 (.tail _ (.head _))
  obtain ⟨b17_0, b17_1, b17_2, b17_3, b17_4, b17_5, b17_6, b17_7, b17_8, b17_9, b17_10⟩ := H.c11 (.tail _ (.tail _ (.tail _ (.tail _ (.tail _ (.tail _ (.tail _ (.tail _ (.tail _ (.head _))))))))))
  obtain ⟨b18_0, b18_1, b18_2, b18_3, b18_4⟩ := H.c5 (.tail _ (.tail _ (.tail _ (.tail _ (.tail _ (.tail _ (.tail _ (.tail _ (.tail _ (.tail _ (.tail _ (.tail _ (.tail _ (.tail _ (.tail _ (.tail _ (.head _)))))))))))))))))
  go_wp2_with fail
  refine (eqByteS_any _ _ l1 _ (H.slB 5 (.tail _ (.tail _ (.tail _ (.tail _ (.tail _ (.tail _ (.tail _ (.tail _ (.head _)))))))))) (H.slB 5 (.head _))).mono ?_
  rintro e _ ⟨rfl, d9, rfl⟩
  replace H := H.drewN d9
  replace H := H.sub (qs := [segX 42 w6.heap.size [.int .i64 X0, .int .i64 X1, .int .i64 X2, (.slice A6_3' R3.length c6_3'), (.slice A6_4' R4.length c6_4'), .int .i64 X5, .int .i64 X6, (.slice A6_7' R7.length c6_7'), (.slice A6_8' R8.length c6_8'), (.slice A6_9' R9.length c6_9'), (.slice A6_10' R10.length c6_10')], segB 5 (.slice A6_3' R3.length c6_3') R3, segB 5 (.slice A6_4' R4.length c6_4') R4, segB 5 (.slice A6_7' R7.length c6_7') R7, segB 5 (.slice A6_8' R8.length c6_8') R8, (row6_9 :: rowsS 5 vs6_9 R9), (row6_10 :: rowsS 5 vs6_10 R10), segB 5 u4 l1, segX 42 w3.heap.size [.int .i64 X0, .int .i64 X1, .int .i64 X2, (.slice A3_3' R3.length c3_3'), (.slice A3_4' R4.length c3_4'), .int .i64 X5, .int .i64 X6, (.slice A3_7' R7.length c3_7'), (.slice A3_8' R8.length c3_8'), (.slice A3_9' R9.length c3_9'), (.slice A3_10' R10.length c3_10')], segB 5 (.slice A3_3' R3.length c3_3') R3, segB 5 (.slice A3_4' R4.length c3_4') R4, segB 5 (.slice A3_7' R7.length c3_7') R7, segB 5 (.slice A3_8' R8.length c3_8') R8, (row3_9 :: rowsS 5 vs3_9 R9), (row3_10 :: rowsS 5 vs3_10 R10), segX 23 W.heap.size [.int .i64 x0_0, .int .i64 x0_1, .int .i64 x0_2, .int .i64 x0_3, .int .i64 x0_4]]) (.cons _ (.cons_cons _ (.cons_cons _ (.cons_cons _ (.cons_cons _ (.cons_cons _ (.cons_cons _ (.cons_cons _ (.cons_cons _ (.cons_cons _ (.cons_cons _ (.cons_cons _ (.cons_cons _ (.cons_cons _ (.cons_cons _ (.cons_cons _ (.cons_cons _ .slnil)))))))))))))))))
  replace H : InvF W _ [segB 5 u4 l1, segX 42 w6.heap.size [.int .i64 X0, .int .i64 X1, .int .i64 X2, (.slice A6_3' R3.length c6_3'), (.slice A6_4' R4.length c6_4'), .int .i64 X5, .int .i64 X6, (.slice A6_7' R7.length c6_7'), (.slice A6_8' R8.length c6_8'), (.slice A6_9' R9.length c6_9'), (.slice A6_10' R10.length c6_10')], segB 5 (.slice A6_3' R3.length c6_3') R3, segB 5 (.slice A6_4' R4.length c6_4') R4, segB 5 (.slice A6_7' R7.length c6_7') R7, segB 5 (.slice A6_8' R8.length c6_8') R8, (row6_9 :: rowsS 5 vs6_9 R9), (row6_10 :: rowsS 5 vs6_10 R10), segX 42 w3.heap.size [.int .i64 X0, .int .i64 X1, .int .i64 X2, (.slice A3_3' R3.length c3_3'), (.slice A3_4' R4.length c3_4'), .int .i64 X5, .int .i64 X6, (.slice A3_7' R7.length c3_7'), (.slice A3_8' R8.length c3_8'), (.slice A3_9' R9.length c3_9'), (.slice A3_10' R10.length c3_10')], segB 5 (.slice A3_3' R3.length c3_3') R3, segB 5 (.slice A3_4' R4.length c3_4') R4, segB 5 (.slice A3_7' R7.length c3_7') R7, segB 5 (.slice A3_8' R8.length c3_8') R8, (row3_9 :: rowsS 5 vs3_9 R9), (row3_10 :: rowsS 5 vs3_10 R10), segX 23 W.heap.size [.int .i64 x0_0, .int .i64 x0_1, .int .i64 x0_2, .int .i64 x0_3, .int .i64 x0_4]] := H.front 7 rfl
  clear b16_0 b16_1 b16_2 b16_3 b16_4 b16_5 b16_6 b16_7 b16_8 b16_9 b16_10 b17_0 b17_1 b17_2 b17_3 b17_4 b17_5 b17_6 b17_7 b17_8 b17_9 b17_10 b18_0 b18_1 b18_2 b18_3 b18_4
  obtain ⟨b19_0, b19_1, b19_2, b19_3, b19_4, b19_5, b19_6, b19_7, b19_8, b19_9, b19_10⟩ := H.c11 (.tail _ (.head _))
  obtain ⟨b20_0, b20_1, b20_2, b20_3, b20_4, b20_5, b20_6, b20_7, b20_8, b20_9, b20_10⟩ := H.c11 (.tail _ (.tail _ (.tail _ (.tail _ (.tail _ (.tail _ (.tail _ (.tail _ (.head _)))))))))
  obtain ⟨b21_0, b21_1, b21_2, b21_3, b21_4⟩ := H.c5 (.tail _ (.tail _ (.tail _ (.tail _ (.tail _ (.tail _ (.tail _ (.tail _ (.tail _ (.tail _ (.tail _ (.tail _ (.tail _ (.tail _ (.tail _ (.head _))))))))))))))))
  go_wp2_with fail
  refine (markByteS_z _ l1 (1) _ _ _ (H.ownB 5 (.head _)) rfl (by omega) (by omega)).mono ?_
  rintro e w10 ⟨rfl, ho, hg⟩
  replace H := H.wroteB ho hg
  clear ho hg
  have hltk : ¬ ((1 : Int) + (l1.length : Int) < 0) := by omega
  clear b19_0 b19_1 b19_2 b19_3 b19_4 b19_5 b19_6 b19_7 b19_8 b19_9 b19_10 b20_0 b20_1 b20_2 b20_3 b20_4 b20_5 b20_6 b20_7 b20_8 b20_9 b20_10 b21_0 b21_1 b21_2 b21_3 b21_4
  obtain ⟨b22_0, b22_1, b22_2, b22_3, b22_4, b22_5, b22_6, b22_7, b22_8, b22_9, b22_10⟩ := H.c11 (.tail _ (.head _))
  obtain ⟨b23_0, b23_1, b23_2, b23_3, b23_4, b23_5, b23_6, b23_7, b23_8, b23_9, b23_10⟩ := H.c11 (.tail _ (.tail _ (.tail _ (.tail _ (.tail _ (.tail _ (.tail _ (.tail _ (.head _)))))))))
  obtain ⟨b24_0, b24_1, b24_2, b24_3, b24_4⟩ := H.c5 (.tail _ (.tail _ (.tail _ (.tail _ (.tail _ (.tail _ (.tail _ (.tail _ (.tail _ (.tail _ (.tail _ (.tail _ (.tail _ (.tail _ (.tail _ (.head _))))))))))))))))
  go_wp2_with fail
  refine (eqBlock_any X0 X1 X2 X5 X6 _ _ _ _ _ _ _ _ _ _ _ _ R3 R4 R7 R8 R9 R10 _ (H.slB 5 (.tail _ (.tail _ (.head _)))) (H.slB 5 (.tail _ (.tail _ (.tail _ (.head _))))) (H.slB 5 (.tail _ (.tail _ (.tail _ (.tail _ (.head _)))))) (H.slB 5 (.tail _ (.tail _ (.tail _ (.tail _ (.tail _ (.head _))))))) (H.slT (E := 5) HV6_9.out HR6_9.out (.tail _ (.tail _ (.tail _ (.tail _ (.tail _ (.tail _ (.head _)))))))) (H.slT (E := 5) HV6_10.out HR6_10.out (.tail _ (.tail _ (.tail _ (.tail _ (.tail _ (.tail _ (.tail _ (.head _))))))))) (H.slB 5 (.tail _ (.tail _ (.tail _ (.tail _ (.tail _ (.tail _ (.tail _ (.tail _ (.tail _ (.head _))))))))))) (H.slB 5 (.tail _ (.tail _ (.tail _ (.tail _ (.tail _ (.tail _ (.tail _ (.tail _ (.tail _ (.tail _ (.head _)))))))))))) (H.slB 5 (.tail _ (.tail _ (.tail _ (.tail _ (.tail _ (.tail _ (.tail _ (.tail _ (.tail _ (.tail _ (.tail _ (.head _))))))))))))) (H.slB 5 (.tail _ (.tail _ (.tail _ (.tail _ (.tail _ (.tail _ (.tail _ (.tail _ (.tail _ (.tail _ (.tail _ (.tail _ (.head _)))))))))))))) (H.slT (E := 5) HV3_9.out HR3_9.out (.tail _ (.tail _ (.tail _ (.tail _ (.tail _ (.tail _ (.tail _ (.tail _ (.tail _ (.tail _ (.tail _ (.tail _ (.tail _ (.head _))))))))))))))) (H.slT (E := 5) HV3_10.out HR3_10.out (.tail _ (.tail _ (.tail _ (.tail _ (.tail _ (.tail _ (.tail _ (.tail _ (.tail _ (.tail _ (.tail _ (.tail _ (.tail _ (.tail _ (.head _))))))))))))))))).mono ?_
  rintro e w11 ⟨rfl, hb⟩
  replace H := H.up hb
  clear hb
  replace H := H.sub (qs := [segX 42 w6.heap.size [.int .i64 X0, .int .i64 X1, .int .i64 X2, (.slice A6_3' R3.length c6_3'), (.slice A6_4' R4.length c6_4'), .int .i64 X5, .int .i64 X6, (.slice A6_7' R7.length c6_7'), (.slice A6_8' R8.length c6_8'), (.slice A6_9' R9.length c6_9'), (.slice A6_10' R10.length c6_10')], segB 5 (.slice A6_3' R3.length c6_3') R3, segB 5 (.slice A6_4' R4.length c6_4') R4, segB 5 (.slice A6_7' R7.length c6_7') R7, segB 5 (.slice A6_8' R8.length c6_8') R8, (row6_9 :: rowsS 5 vs6_9 R9), (row6_10 :: rowsS 5 vs6_10 R10), segX 42 w3.heap.size [.int .i64 X0, .int .i64 X1, .int .i64 X2, (.slice A3_3' R3.length c3_3'), (.slice A3_4' R4.length c3_4'), .int .i64 X5, .int .i64 X6, (.slice A3_7' R7.length c3_7'), (.slice A3_8' R8.length c3_8'), (.slice A3_9' R9.length c3_9'), (.slice A3_10' R10.length c3_10')], segB 5 (.slice A3_3' R3.length c3_3') R3, segB 5 (.slice A3_4' R4.length c3_4') R4, segB 5 (.slice A3_7' R7.length c3_7') R7, segB 5 (.slice A3_8' R8.length c3_8') R8, (row3_9 :: rowsS 5 vs3_9 R9), (row3_10 :: rowsS 5 vs3_10 R10), segX 23 W.heap.size [.int .i64 x0_0, .int .i64 x0_1, .int .i64 x0_2, .int .i64 x0_3, .int .i64 x0_4]]) (.cons _ (.cons_cons _ (.cons_cons _ (.cons_cons _ (.cons_cons _ (.cons_cons _ (.cons_cons _ (.cons_cons _ (.cons_cons _ (.cons_cons _ (.cons_cons _ (.cons_cons _ (.cons_cons _ (.cons_cons _ (.cons_cons _ (.cons_cons _ .slnil))))))))))))))))
  replace H : InvF W _ [(row6_10 :: rowsS 5 vs6_10 R10), segX 42 w6.heap.size [.int .i64 X0, .int .i64 X1, .int .i64 X2, (.slice A6_3' R3.length c6_3'), (.slice A6_4' R4.length c6_4'), .int .i64 X5, .int .i64 X6, (.slice A6_7' R7.length c6_7'), (.slice A6_8' R8.length c6_8'), (.slice A6_9' R9.length c6_9'), (.slice A6_10' R10.length c6_10')], segB 5 (.slice A6_3' R3.length c6_3') R3, segB 5 (.slice A6_4' R4.length c6_4') R4, segB 5 (.slice A6_7' R7.length c6_7') R7, segB 5 (.slice A6_8' R8.length c6_8') R8, (row6_9 :: rowsS 5 vs6_9 R9), segX 42 w3.heap.size [.int .i64 X0, .int .i64 X1, .int .i64 X2, (.slice A3_3' R3.length c3_3'), (.slice A3_4' R4.length c3_4'), .int .i64 X5, .int .i64 X6, (.slice A3_7' R7.length c3_7'), (.slice A3_8' R8.length c3_8'), (.slice A3_9' R9.length c3_9'), (.slice A3_10' R10.length c3_10')], segB 5 (.slice A3_3' R3.length c3_3') R3, segB 5 (.slice A3_4' R4.length c3_4') R4, segB 5 (.slice A3_7' R7.length c3_7') R7, segB 5 (.slice A3_8' R8.length c3_8') R8, (row3_9 :: rowsS 5 vs3_9 R9), (row3_10 :: rowsS 5 vs3_10 R10), segX 23 W.heap.size [.int .i64 x0_0, .int .i64 x0_1, .int .i64 x0_2, .int .i64 x0_3, .int .i64 x0_4]] := H.front 6 rfl
  replace H : InvF W _ [(row6_9 :: rowsS 5 vs6_9 R9), (row6_10 :: rowsS 5 vs6_10 R10), segX 42 w6.heap.size [.int .i64 X0, .int .i64 X1, .int .i64 X2, (.slice A6_3' R3.length c6_3'), (.slice A6_4' R4.length c6_4'), .int .i64 X5, .int .i64 X6, (.slice A6_7' R7.length c6_7'), (.slice A6_8' R8.length c6_8'), (.slice A6_9' R9.length c6_9'), (.slice A6_10' R10.length c6_10')], segB 5 (.slice A6_3' R3.length c6_3') R3, segB 5 (.slice A6_4' R4.length c6_4') R4, segB 5 (.slice A6_7' R7.length c6_7') R7, segB 5 (.slice A6_8' R8.length c6_8') R8, segX 42 w3.heap.size [.int .i64 X0, .int .i64 X1, .int .i64 X2, (.slice A3_3' R3.length c3_3'), (.slice A3_4' R4.length c3_4'), .int .i64 X5, .int .i64 X6, (.slice A3_7' R7.length c3_7'), (.slice A3_8' R8.length c3_8'), (.slice A3_9' R9.length c3_9'), (.slice A3_10' R10.length c3_10')], segB 5 (.slice A3_3' R3.length c3_3') R3, segB 5 (.slice A3_4' R4.length c3_4') R4, segB 5 (.slice A3_7' R7.length c3_7') R7, segB 5 (.slice A3_8' R8.length c3_8') R8, (row3_9 :: rowsS 5 vs3_9 R9), (row3_10 :: rowsS 5 vs3_10 R10), segX 23 W.heap.size [.int .i64 x0_0, .int .i64 x0_1, .int .i64 x0_2, .int .i64 x0_3, .int .i64 x0_4]] := H.front 6 rfl
  replace H : InvF W _ [segB 5 (.slice A6_8' R8.length c6_8') R8, (row6_9 :: rowsS 5 vs6_9 R9), (row6_10 :: rowsS 5 vs6_10 R10), segX 42 w6.heap.size [.int .i64 X0, .int .i64 X1, .int .i64 X2, (.slice A6_3' R3.length c6_3'), (.slice A6_4' R4.length c6_4'), .int .i64 X5, .int .i64 X6, (.slice A6_7' R7.length c6_7'), (.slice A6_8' R8.length c6_8'), (.slice A6_9' R9.length c6_9'), (.slice A6_10' R10.length c6_10')], segB 5 (.slice A6_3' R3.length c6_3') R3, segB 5 (.slice A6_4' R4.length c6_4') R4, segB 5 (.slice A6_7' R7.length c6_7') R7, segX 42 w3.heap.size [.int .i64 X0, .int .i64 X1, .int .i64 X2, (.slice A3_3' R3.length c3_3'), (.slice A3_4' R4.length c3_4'), .int .i64 X5, .int .i64 X6, (.slice A3_7' R7.length c3_7'), (.slice A3_8' R8.length c3_8'), (.slice A3_9' R9.length c3_9'), (.slice A3_10' R10.length c3_10')], segB 5 (.slice A3_3' R3.length c3_3') R3, segB 5 (.slice A3_4' R4.length c3_4') R4, segB 5 (.slice A3_7' R7.length c3_7') R7, segB 5 (.slice A3_8' R8.length c3_8') R8, (row3_9 :: rowsS 5 vs3_9 R9), (row3_10 :: rowsS 5 vs3_10 R10), segX 23 W.heap.size [.int .i64 x0_0, .int .i64 x0_1, .int .i64 x0_2, .int .i64 x0_3, .int .i64 x0_4]] := H.front 6 rfl
  replace H : InvF W _ [segB 5 (.slice A6_7' R7.length c6_7') R7, segB 5 (.slice A6_8' R8.length c6_8') R8, (row6_9 :: rowsS 5 vs6_9 R9), (row6_10 :: rowsS 5 vs6_10 R10), segX 42 w6.heap.size [.int .i64 X0, .int .i64 X1, .int .i64 X2, (.slice A6_3' R3.length c6_3'), (.slice A6_4' R4.length c6_4'), .int .i64 X5, .int .i64 X6, (.slice A6_7' R7.length c6_7'), (.slice A6_8' R8.length c6_8'), (.slice A6_9' R9.length c6_9'), (.slice A6_10' R10.length c6_10')], segB 5 (.slice A6_3' R3.length c6_3') R3, segB 5 (.slice A6_4' R4.length c6_4') R4, segX 42 w3.heap.size [.int .i64 X0, .int .i64 X1, .int .i64 X2, (.slice A3_3' R3.length c3_3'), (.slice A3_4' R4.length c3_4'), .int .i64 X5, .int .i64 X6, (.slice A3_7' R7.length c3_7'), (.slice A3_8' R8.length c3_8'), (.slice A3_9' R9.length c3_9'), (.slice A3_10' R10.length c3_10')], segB 5 (.slice A3_3' R3.length c3_3') R3, segB 5 (.slice A3_4' R4.length c3_4') R4, segB 5 (.slice A3_7' R7.length c3_7') R7, segB 5 (.slice A3_8' R8.length c3_8') R8, (row3_9 :: rowsS 5 vs3_9 R9), (row3_10 :: rowsS 5 vs3_10 R10), segX 23 W.heap.size [.int .i64 x0_0, .int .i64 x0_1, .int .i64 x0_2, .int .i64 x0_3, .int .i64 x0_4]] := H.front 6 rfl
  replace H : InvF W _ [segB 5 (.slice A6_4' R4.length c6_4') R4, segB 5 (.slice A6_7' R7.length c6_7') R7, segB 5 (.slice A6_8' R8.length c6_8') R8, (row6_9 :: rowsS 5 vs6_9 R9), (row6_10 :: rowsS 5 vs6_10 R10), segX 42 w6.heap.size [.int .i64 X0, .int .i64 X1, .int .i64 X2, (.slice A6_3' R3.length c6_3'), (.slice A6_4' R4.length c6_4'), .int .i64 X5, .int .i64 X6, (.slice A6_7' R7.length c6_7'), (.slice A6_8' R8.length c6_8'), (.slice A6_9' R9.length c6_9'), (.slice A6_10' R10.length c6_10')], segB 5 (.slice A6_3' R3.length c6_3') R3, segX 42 w3.heap.size [.int .i64 X0, .int .i64 X1, .int .i64 X2, (.slice A3_3' R3.length c3_3'), (.slice A3_4' R4.length c3_4'), .int .i64 X5, .int .i64 X6, (.slice A3_7' R7.length c3_7'), (.slice A3_8' R8.length c3_8'), (.slice A3_9' R9.length c3_9'), (.slice A3_10' R10.length c3_10')], segB 5 (.slice A3_3' R3.length c3_3') R3, segB 5 (.slice A3_4' R4.length c3_4') R4, segB 5 (.slice A3_7' R7.length c3_7') R7, segB 5 (.slice A3_8' R8.length c3_8') R8, (row3_9 :: rowsS 5 vs3_9 R9), (row3_10 :: rowsS 5 vs3_10 R10), segX 23 W.heap.size [.int .i64 x0_0, .int .i64 x0_1, .int .i64 x0_2, .int .i64 x0_3, .int .i64 x0_4]] := H.front 6 rfl
  replace H : InvF W _ [segB 5 (.slice A6_3' R3.length c6_3') R3, segB 5 (.slice A6_4' R4.length c6_4') R4, segB 5 (.slice A6_7' R7.length c6_7') R7, segB 5 (.slice A6_8' R8.length c6_8') R8, (row6_9 :: rowsS 5 vs6_9 R9), (row6_10 :: rowsS 5 vs6_10 R10), segX 42 w6.heap.size [.int .i64 X0, .int .i64 X1, .int .i64 X2, (.slice A6_3' R3.length c6_3'), (.slice A6_4' R4.length c6_4'), .int .i64 X5, .int .i64 X6, (.slice A6_7' R7.length c6_7'), (.slice A6_8' R8.length c6_8'), (.slice A6_9' R9.length c6_9'), (.slice A6_10' R10.length c6_10')], segX 42 w3.heap.size [.int .i64 X0, .int .i64 X1, .int .i64 X2, (.slice A3_3' R3.length c3_3'), (.slice A3_4' R4.length c3_4'), .int .i64 X5, .int .i64 X6, (.slice A3_7' R7.length c3_7'), (.slice A3_8' R8.length c3_8'), (.slice A3_9' R9.length c3_9'), (.slice A3_10' R10.length c3_10')], segB 5 (.slice A3_3' R3.length c3_3') R3, segB 5 (.slice A3_4' R4.length c3_4') R4, segB 5 (.slice A3_7' R7.length c3_7') R7, segB 5 (.slice A3_8' R8.length c3_8') R8, (row3_9 :: rowsS 5 vs3_9 R9), (row3_10 :: rowsS 5 vs3_10 R10), segX 23 W.heap.size [.int .i64 x0_0, .int .i64 x0_1, .int .i64 x0_2, .int .i64 x0_3, .int .i64 x0_4]] := H.front 6 rfl
  clear b22_0 b22_1 b22_2 b22_3 b22_4 b22_5 b22_6 b22_7 b22_8 b22_9 b22_10 b23_0 b23_1 b23_2 b23_3 b23_4 b23_5 b23_6 b23_7 b23_8 b23_9 b23_10 b24_0 b24_1 b24_2 b24_3 b24_4
  obtain ⟨b25_0, b25_1, b25_2, b25_3, b25_4, b25_5, b25_6, b25_7, b25_8, b25_9, b25_10⟩ := H.c11 (.tail _ (.tail _ (.tail _ (.tail _ (.tail _ (.tail _ (.head _)))))))
  obtain ⟨b26_0, b26_1, b26_2, b26_3, b26_4, b26_5, b26_6, b26_7, b26_8, b26_9, b26_10⟩ := H.c11 (.tail _ (.tail _ (.tail _ (.tail _ (.tail _ (.tail _ (.tail _ (.head _))))))))
  obtain ⟨b27_0, b27_1, b27_2, b27_3, b27_4⟩ := H.c5 (.tail _ (.tail _ (.tail _ (.tail _ (.tail _ (.tail _ (.tail _ (.tail _ (.tail _ (.tail _ (.tail _ (.tail _ (.tail _ (.tail _ (.head _)))))))))))))))
  go_wp2_with fail
  refine (markBlockT_z X0 X1 X2 X5 X6 W _ _ _ _ _ _ _ _ _ _ _ R3 R4 R7 R8 R9 R10 _ (1) _ HV6_9.out HR6_9.out HV6_10.out HR6_10.out H rfl (by omega) (by omega) (by omega) (by omega) (by omega) (by omega) (by omega)).mono ?_
  rintro e w12 ⟨rfl, K⟩
  replace H := K
  clear K
  have HV6_9m12 : Hid (vs6_9.length = (marksS (1 + R3.length + R4.length + R7.length + R8.length) R9).length) := Lib.hid (by rw [marksS_length]; exact HV6_9.out)
  have HV6_10m12 : Hid (vs6_10.length = (marksS (1 + R3.length + R4.length + R7.length + R8.length + sumL R9) R10).length) := Lib.hid (by rw [marksS_length]; exact HV6_10.out)
  replace H : InvF W w12 [segB 5 (.slice A6_3' R3.length c6_3') (marks (1) R3.length), segB 5 (.slice A6_4' R4.length c6_4') (marks (1 + R3.length) R4.length), segB 5 (.slice A6_7' R7.length c6_7') (marks (1 + R3.length + R4.length) R7.length), segB 5 (.slice A6_8' R8.length c6_8') (marks (1 + R3.length + R4.length + R7.length) R8.length), (row6_9 :: rowsS 5 vs6_9 (marksS (1 + R3.length + R4.length + R7.length + R8.length) R9)), (row6_10 :: rowsS 5 vs6_10 (marksS (1 + R3.length + R4.length + R7.length + R8.length + sumL R9) R10)), segX 42 w6.heap.size [.int .i64 X0, .int .i64 X1, .int .i64 X2, (.slice A6_3' R3.length c6_3'), (.slice A6_4' R4.length c6_4'), .int .i64 X5, .int .i64 X6, (.slice A6_7' R7.length c6_7'), (.slice A6_8' R8.length c6_8'), (.slice A6_9' R9.length c6_9'), (.slice A6_10' R10.length c6_10')], segX 42 w3.heap.size [.int .i64 X0, .int .i64 X1, .int .i64 X2, (.slice A3_3' R3.length c3_3'), (.slice A3_4' R4.length c3_4'), .int .i64 X5, .int .i64 X6, (.slice A3_7' R7.length c3_7'), (.slice A3_8' R8.length c3_8'), (.slice A3_9' R9.length c3_9'), (.slice A3_10' R10.length c3_10')], segB 5 (.slice A3_3' R3.length c3_3') R3, segB 5 (.slice A3_4' R4.length c3_4') R4, segB 5 (.slice A3_7' R7.length c3_7') R7, segB 5 (.slice A3_8' R8.length c3_8') R8, (row3_9 :: rowsS 5 vs3_9 R9), (row3_10 :: rowsS 5 vs3_10 R10), segX 23 W.heap.size [.int .i64 x0_0, .int .i64 x0_1, .int .i64 x0_2, .int .i64 x0_3, .int .i64 x0_4]] := H
  clear b25_0 b25_1 b25_2 b25_3 b25_4 b25_5 b25_6 b25_7 b25_8 b25_9 b25_10 b26_0 b26_1 b26_2 b26_3 b26_4 b26_5 b26_6 b26_7 b26_8 b26_9 b26_10 b27_0 b27_1 b27_2 b27_3 b27_4
  obtain ⟨b28_0, b28_1, b28_2, b28_3, b28_4, b28_5, b28_6, b28_7, b28_8, b28_9, b28_10⟩ := H.c11 (.tail _ (.tail _ (.tail _ (.tail _ (.tail _ (.tail _ (.head _)))))))
  obtain ⟨b29_0, b29_1, b29_2, b29_3, b29_4, b29_5, b29_6, b29_7, b29_8, b29_9, b29_10⟩ := H.c11 (.tail _ (.tail _ (.tail _ (.tail _ (.tail _ (.tail _ (.tail _ (.head _))))))))
  obtain ⟨b30_0, b30_1, b30_2, b30_3, b30_4⟩ := H.c5 (.tail _ (.tail _ (.tail _ (.tail _ (.tail _ (.tail _ (.tail _ (.tail _ (.tail _ (.tail _ (.tail _ (.tail _ (.tail _ (.tail _ (.head _)))))))))))))))
  go_wp2_with fail
  refine (heldBlock_z X0 X1 X2 X5 X6 _ _ _ _ _ _ 1 R3.length R4.length R7.length R8.length R9 R10 _ _ (H.slB 5 (.head _)) (H.slB 5 (.tail _ (.head _))) (H.slB 5 (.tail _ (.tail _ (.head _)))) (H.slB 5 (.tail _ (.tail _ (.tail _ (.head _))))) (H.slT (E := 5) HV6_9m12.out HR6_9.out (.tail _ (.tail _ (.tail _ (.tail _ (.head _)))))) (H.slT (E := 5) HV6_10m12.out HR6_10.out (.tail _ (.tail _ (.tail _ (.tail _ (.tail _ (.head _))))))) rfl (by omega) (by omega) (by omega) (by omega) (by omega) (by omega) (by omega)).mono ?_
  rintro e w13 ⟨rfl, hb⟩
  replace H := H.up hb
  clear hb
  have hltL : ¬ ((1 : Int) + (R3.length : Int) + (R4.length : Int) + (R7.length : Int) + (R8.length : Int) + (sumL R9 : Int) + (sumL R10 : Int) < 0) := by omega
  have hneL : ((1 : Int) + (R3.length : Int) + (R4.length : Int) + (R7.length : Int) + (R8.length : Int) + (sumL R9 : Int) + (sumL R10 : Int) != 1 + (R3.length : Int) + (R4.length : Int) + (R7.length : Int) + (R8.length : Int) + (sumL R9 : Int) + (sumL R10 : Int)) = false := by simp
  clear b28_0 b28_1 b28_2 b28_3 b28_4 b28_5 b28_6 b28_7 b28_8 b28_9 b28_10 b29_0 b29_1 b29_2 b29_3 b29_4 b29_5 b29_6 b29_7 b29_8 b29_9 b29_10 b30_0 b30_1 b30_2 b30_3 b30_4
  obtain ⟨b31_0, b31_1, b31_2, b31_3, b31_4, b31_5, b31_6, b31_7, b31_8, b31_9, b31_10⟩ := H.c11 (.tail _ (.tail _ (.tail _ (.tail _ (.tail _ (.tail _ (.head _)))))))
  obtain ⟨b32_0, b32_1, b32_2, b32_3, b32_4, b32_5, b32_6, b32_7, b32_8, b32_9, b32_10⟩ := H.c11 (.tail _ (.tail _ (.tail _ (.tail _ (.tail _ (.tail _ (.tail _ (.head _))))))))
  obtain ⟨b33_0, b33_1, b33_2, b33_3, b33_4⟩ := H.c5 (.tail _ (.tail _ (.tail _ (.tail _ (.tail _ (.tail _ (.tail _ (.tail _ (.tail _ (.tail _ (.tail _ (.tail _ (.tail _ (.tail _ (.head _)))))))))))))))
  go_wp2_with fail
  refine (toLimits_any x0_0 x0_1 x0_2 x0_3 x0_4   _  ).mono ?_
  rintro e w14 ⟨rfl, hb⟩
  replace H := H.up hb
  clear hb
  clear b31_0 b31_1 b31_2 b31_3 b31_4 b31_5 b31_6 b31_7 b31_8 b31_9 b31_10 b32_0 b32_1 b32_2 b32_3 b32_4 b32_5 b32_6 b32_7 b32_8 b32_9 b32_10 b33_0 b33_1 b33_2 b33_3 b33_4
  obtain ⟨b34_0, b34_1, b34_2, b34_3, b34_4, b34_5, b34_6, b34_7, b34_8, b34_9, b34_10⟩ := H.c11 (.tail _ (.tail _ (.tail _ (.tail _ (.tail _ (.tail _ (.head _)))))))
  obtain ⟨b35_0, b35_1, b35_2, b35_3, b35_4, b35_5, b35_6, b35_7, b35_8, b35_9, b35_10⟩ := H.c11 (.tail _ (.tail _ (.tail _ (.tail _ (.tail _ (.tail _ (.tail _ (.head _))))))))
  obtain ⟨b36_0, b36_1, b36_2, b36_3, b36_4⟩ := H.c5 (.tail _ (.tail _ (.tail _ (.tail _ (.tail _ (.tail _ (.tail _ (.tail _ (.tail _ (.tail _ (.tail _ (.tail _ (.tail _ (.tail _ (.head _)))))))))))))))
  go_wp2_with fail
  refine (toByteS_any _ l1 _ (hs1.up H.bel) (by omega)).mono ?_
  rintro e w15 ⟨u15, rfl, ho, hb⟩
  replace H := H.moreB ho hb
  clear ho hb
  clear b34_0 b34_1 b34_2 b34_3 b34_4 b34_5 b34_6 b34_7 b34_8 b34_9 b34_10 b35_0 b35_1 b35_2 b35_3 b35_4 b35_5 b35_6 b35_7 b35_8 b35_9 b35_10 b36_0 b36_1 b36_2 b36_3 b36_4
  obtain ⟨b37_0, b37_1, b37_2, b37_3, b37_4, b37_5, b37_6, b37_7, b37_8, b37_9, b37_10⟩ := H.c11 (.tail _ (.tail _ (.tail _ (.tail _ (.tail _ (.tail _ (.tail _ (.head _))))))))
  obtain ⟨b38_0, b38_1, b38_2, b38_3, b38_4, b38_5, b38_6, b38_7, b38_8, b38_9, b38_10⟩ := H.c11 (.tail _ (.tail _ (.tail _ (.tail _ (.tail _ (.tail _ (.tail _ (.tail _ (.head _)))))))))
  obtain ⟨b39_0, b39_1, b39_2, b39_3, b39_4⟩ := H.c5 (.tail _ (.tail _ (.tail _ (.tail _ (.tail _ (.tail _ (.tail _ (.tail _ (.tail _ (.tail _ (.tail _ (.tail _ (.tail _ (.tail _ (.tail _ (.head _))))))))))))))))
  go_wp2_with fail
  refine (implGetBlockL_any x0_0 x0_1 x0_2 x0_3 x0_4 n2 _ l1 _  (H.ownB 5 (.head _)).sp (by omega) hw2 (hgI.up H.bel) (hg.up H.bel)).mono ?_
  rw [← HR0.out, ← HR1.out, ← HR2.out, ← HR3.out, ← HR4.out, ← HR5.out, ← HR6.out, ← HR7.out, ← HR8.out, ← HR9.out, ← HR10.out, ← HB0.out, ← HB1.out]
  rintro e w16 ⟨u16_3, u16_4, u16_7, u16_8, u16_9, u16_10, row16_9, vs16_9, row16_10, vs16_10, rfl, hv16_9, hr16_9, hv16_10, hr16_10, K⟩
  have HV16_9 := Lib.hid hv16_9
  have HV16_10 := Lib.hid hv16_10
  have HR16_9 := Lib.hid hr16_9
  have HR16_10 := Lib.hid hr16_10
  obtain ⟨A16_3', c16_3', rfl⟩ := K.openB' (.head _)
  obtain ⟨A16_4', c16_4', rfl⟩ := K.openB' (.tail _ (.head _))
  obtain ⟨A16_7', c16_7', rfl⟩ := K.openB' (.tail _ (.tail _ (.head _)))
  obtain ⟨A16_8', c16_8', rfl⟩ := K.openB' (.tail _ (.tail _ (.tail _ (.head _))))
  obtain ⟨A16_9', c16_9', rfl⟩ := K.openT hv16_9 hr16_9 
  clear hv16_9 hr16_9
  obtain ⟨A16_10', c16_10', rfl⟩ := K.openT hv16_10 hr16_10 
  clear hv16_10 hr16_10
  have HT := H.moreF K
  clear K
  replace H : InvF W w16 [segB 5 (.slice A16_3' R3.length c16_3') R3, segB 5 (.slice A16_4' R4.length c16_4') R4, segB 5 (.slice A16_7' R7.length c16_7') R7, segB 5 (.slice A16_8' R8.length c16_8') R8, (row16_9 :: rowsS 5 vs16_9 R9), (row16_10 :: rowsS 5 vs16_10 R10), segB 5 u15 l1, segB 5 (.slice A6_3' R3.length c6_3') (marks (1) R3.length), segB 5 (.slice A6_4' R4.length c6_4') (marks (1 + R3.length) R4.length), segB 5 (.slice A6_7' R7.length c6_7') (marks (1 + R3.length + R4.length) R7.length), segB 5 (.slice A6_8' R8.length c6_8') (marks (1 + R3.length + R4.length + R7.length) R8.length), (row6_9 :: rowsS 5 vs6_9 (marksS (1 + R3.length + R4.length + R7.length + R8.length) R9)), (row6_10 :: rowsS 5 vs6_10 (marksS (1 + R3.length + R4.length + R7.length + R8.length + sumL R9) R10)), segX 42 w6.heap.size [.int .i64 X0, .int .i64 X1, .int .i64 X2, (.slice A6_3' R3.length c6_3'), (.slice A6_4' R4.length c6_4'), .int .i64 X5, .int .i64 X6, (.slice A6_7' R7.length c6_7'), (.slice A6_8' R8.length c6_8'), (.slice A6_9' R9.length c6_9'), (.slice A6_10' R10.length c6_10')], segX 42 w3.heap.size [.int .i64 X0, .int .i64 X1, .int .i64 X2, (.slice A3_3' R3.length c3_3'), (.slice A3_4' R4.length c3_4'), .int .i64 X5, .int .i64 X6, (.slice A3_7' R7.length c3_7'), (.slice A3_8' R8.length c3_8'), (.slice A3_9' R9.length c3_9'), (.slice A3_10' R10.length c3_10')], segB 5 (.slice A3_3' R3.length c3_3') R3, segB 5 (.slice A3_4' R4.length c3_4') R4, segB 5 (.slice A3_7' R7.length c3_7') R7, segB 5 (.slice A3_8' R8.length c3_8') R8, (row3_9 :: rowsS 5 vs3_9 R9), (row3_10 :: rowsS 5 vs3_10 R10), segX 23 W.heap.size [.int .i64 x0_0, .int .i64 x0_1, .int .i64 x0_2, .int .i64 x0_3, .int .i64 x0_4]] := HT
  clear HT
  replace H := H.newX 42 #[.int .i64 X0, .int .i64 X1, .int .i64 X2, (.slice A16_3' R3.length c16_3'), (.slice A16_4' R4.length c16_4'), .int .i64 X5, .int .i64 X6, (.slice A16_7' R7.length c16_7'), (.slice A16_8' R8.length c16_8'), (.slice A16_9' R9.length c16_9'), (.slice A16_10' R10.length c16_10')]
  replace H : InvF W _ [segX 42 w16.heap.size [.int .i64 X0, .int .i64 X1, .int .i64 X2, (.slice A16_3' R3.length c16_3'), (.slice A16_4' R4.length c16_4'), .int .i64 X5, .int .i64 X6, (.slice A16_7' R7.length c16_7'), (.slice A16_8' R8.length c16_8'), (.slice A16_9' R9.length c16_9'), (.slice A16_10' R10.length c16_10')], segB 5 (.slice A16_3' R3.length c16_3') R3, segB 5 (.slice A16_4' R4.length c16_4') R4, segB 5 (.slice A16_7' R7.length c16_7') R7, segB 5 (.slice A16_8' R8.length c16_8') R8, (row16_9 :: rowsS 5 vs16_9 R9), (row16_10 :: rowsS 5 vs16_10 R10), segB 5 u15 l1, segB 5 (.slice A6_3' R3.length c6_3') (marks (1) R3.length), segB 5 (.slice A6_4' R4.length c6_4') (marks (1 + R3.length) R4.length), segB 5 (.slice A6_7' R7.length c6_7') (marks (1 + R3.length + R4.length) R7.length), segB 5 (.slice A6_8' R8.length c6_8') (marks (1 + R3.length + R4.length + R7.length) R8.length), (row6_9 :: rowsS 5 vs6_9 (marksS (1 + R3.length + R4.length + R7.length + R8.length) R9)), (row6_10 :: rowsS 5 vs6_10 (marksS (1 + R3.length + R4.length + R7.length + R8.length + sumL R9) R10)), segX 42 w6.heap.size [.int .i64 X0, .int .i64 X1, .int .i64 X2, (.slice A6_3' R3.length c6_3'), (.slice A6_4' R4.length c6_4'), .int .i64 X5, .int .i64 X6, (.slice A6_7' R7.length c6_7'), (.slice A6_8' R8.length c6_8'), (.slice A6_9' R9.length c6_9'), (.slice A6_10' R10.length c6_10')], segX 42 w3.heap.size [.int .i64 X0, .int .i64 X1, .int .i64 X2, (.slice A3_3' R3.length c3_3'), (.slice A3_4' R4.length c3_4'), .int .i64 X5, .int .i64 X6, (.slice A3_7' R7.length c3_7'), (.slice A3_8' R8.length c3_8'), (.slice A3_9' R9.length c3_9'), (.slice A3_10' R10.length c3_10')], segB 5 (.slice A3_3' R3.length c3_3') R3, segB 5 (.slice A3_4' R4.length c3_4') R4, segB 5 (.slice A3_7' R7.length c3_7') R7, segB 5 (.slice A3_8' R8.length c3_8') R8, (row3_9 :: rowsS 5 vs3_9 R9), (row3_10 :: rowsS 5 vs3_10 R10), segX 23 W.heap.size [.int .i64 x0_0, .int .i64 x0_1, .int .i64 x0_2, .int .i64 x0_3, .int .i64 x0_4]] := H
  clear b37_0 b37_1 b37_2 b37_3 b37_4 b37_5 b37_6 b37_7 b37_8 b37_9 b37_10 b38_0 b38_1 b38_2 b38_3 b38_4 b38_5 b38_6 b38_7 b38_8 b38_9 b38_10 b39_0 b39_1 b39_2 b39_3 b39_4
  obtain ⟨b40_0, b40_1, b40_2, b40_3, b40_4, b40_5, b40_6, b40_7, b40_8, b40_9, b40_10⟩ := H.c11 (.head _)
  obtain ⟨b41_0, b41_1, b41_2, b41_3, b41_4, b41_5, b41_6, b41_7, b41_8, b41_9, b41_10⟩ := H.c11 (.tail _ (.tail _ (.tail _ (.tail _ (.tail _ (.tail _ (.tail _ (.tail _ (.tail _ (.tail _ (.tail _ (.tail _ (.tail _ (.tail _ (.head _)))))))))))))))
  obtain ⟨b42_0, b42_1, b42_2, b42_3, b42_4, b42_5, b42_6, b42_7, b42_8, b42_9, b42_10⟩ := H.c11 (.tail _ (.tail _ (.tail _ (.tail _ (.tail _ (.tail _ (.tail _ (.tail _ (.tail _ (.tail _ (.tail _ (.tail _ (.tail _ (.tail _ (.tail _ (.head _))))))))))))))))
  obtain ⟨b43_0, b43_1, b43_2, b43_3, b43_4⟩ := H.c5 (.tail _ (.tail _ (.tail _ (.tail _ (.tail _ (.tail _ (.tail _ (.tail _ (.tail _ (.tail _ (.tail _ (.tail _ (.tail _ (.tail _ (.tail _ (.tail _ (.tail _ (.tail _ (.tail _ (.tail _ (.tail _ (.tail _ (.head _)))))))))))))))))))))))
  go_wp2_with fail
  refine (eqBlock_any X0 X1 X2 X5 X6 _ _ _ _ _ _ _ _ _ _ _ _ R3 R4 R7 R8 R9 R10 _ (H.slB 5 (.tail _ (.head _))) (H.slB 5 (.tail _ (.tail _ (.head _)))) (H.slB 5 (.tail _ (.tail _ (.tail _ (.head _))))) (H.slB 5 (.tail _ (.tail _ (.tail _ (.tail _ (.head _)))))) (H.slT (E := 5) HV16_9.out HR16_9.out (.tail _ (.tail _ (.tail _ (.tail _ (.tail _ (.head _))))))) (H.slT (E := 5) HV16_10.out HR16_10.out (.tail _ (.tail _ (.tail _ (.tail _ (.tail _ (.tail _ (.head _)))))))) (H.slB 5 (.tail _ (.tail _ (.tail _ (.tail _ (.tail _ (.tail _ (.tail _ (.tail _ (.tail _ (.tail _ (.tail _ (.tail _ (.tail _ (.tail _ (.tail _ (.tail _ (.head _)))))))))))))))))) (H.slB 5 (.tail _ (.tail _ (.tail _ (.tail _ (.tail _ (.tail _ (.tail _ (.tail _ (.tail _ (.tail _ (.tail _ (.tail _ (.tail _ (.tail _ (.tail _ (.tail _ (.tail _ (.head _))))))))))))))))))) (H.slB 5 (.tail _ (.tail _ (.tail _ (.tail _ (.tail _ (.tail _ (.tail _ (.tail _ (.tail _ (.tail _ (.tail _ (.tail _ (.tail _ (.tail _ (.tail _ (.tail _ (.tail _ (.tail _ (.head _)))))))))))))))))))) (H.slB 5 (.tail _ (.tail _ (.tail _ (.tail _ (.tail _ (.tail _ (.tail _ (.tail _ (.tail _ (.tail _ (.tail _ (.tail _ (.tail _ (.tail _ (.tail _ (.tail _ (.tail _ (.tail _ (.tail _ (.head _))))))))))))))))))))) (H.slT (E := 5) HV3_9.out HR3_9.out (.tail _ (.tail _ (.tail _ (.tail _ (.tail _ (.tail _ (.tail _ (.tail _ (.tail _ (.tail _ (.tail _ (.tail _ (.tail _ (.tail _ (.tail _ (.tail _ (.tail _ (.tail _ (.tail _ (.tail _ (.head _)))))))))))))))))))))) (H.slT (E := 5) HV3_10.out HR3_10.out (.tail _ (.tail _ (.tail _ (.tail _ (.tail _ (.tail _ (.tail _ (.tail _ (.tail _ (.tail _ (.tail _ (.tail _ (.tail _ (.tail _ (.tail _ (.tail _ (.tail _ (.tail _ (.tail _ (.tail _ (.tail _ (.head _)))))))))))))))))))))))).mono ?_
  rintro e w17 ⟨rfl, hb⟩
  replace H := H.up hb
  clear hb
  clear b40_0 b40_1 b40_2 b40_3 b40_4 b40_5 b40_6 b40_7 b40_8 b40_9 b40_10 b41_0 b41_1 b41_2 b41_3 b41_4 b41_5 b41_6 b41_7 b41_8 b41_9 b41_10 b42_0 b42_1 b42_2 b42_3 b42_4 b42_5 b42_6 b42_7 b42_8 b42_9 b42_10 b43_0 b43_1 b43_2 b43_3 b43_4
  obtain ⟨b44_0, b44_1, b44_2, b44_3, b44_4, b44_5, b44_6, b44_7, b44_8, b44_9, b44_10⟩ := H.c11 (.head _)
  obtain ⟨b45_0, b45_1, b45_2, b45_3, b45_4, b45_5, b45_6, b45_7, b45_8, b45_9, b45_10⟩ := H.c11 (.tail _ (.tail _ (.tail _ (.tail _ (.tail _ (.tail _ (.tail _ (.tail _ (.tail _ (.tail _ (.tail _ (.tail _ (.tail _ (.tail _ (.head _)))))))))))))))
  obtain ⟨b46_0, b46_1, b46_2, b46_3, b46_4, b46_5, b46_6, b46_7, b46_8, b46_9, b46_10⟩ := H.c11 (.tail _ (.tail _ (.tail _ (.tail _ (.tail _ (.tail _ (.tail _ (.tail _ (.tail _ (.tail _ (.tail _ (.tail _ (.tail _ (.tail _ (.tail _ (.head _))))))))))))))))
  obtain ⟨b47_0, b47_1, b47_2, b47_3, b47_4⟩ := H.c5 (.tail _ (.tail _ (.tail _ (.tail _ (.tail _ (.tail _ (.tail _ (.tail _ (.tail _ (.tail _ (.tail _ (.tail _ (.tail _ (.tail _ (.tail _ (.tail _ (.tail _ (.tail _ (.tail _ (.tail _ (.tail _ (.tail _ (.head _)))))))))))))))))))))))
  go_wp2_with fail
  refine (heldBlock_z X0 X1 X2 X5 X6 _ _ _ _ _ _ 1 R3.length R4.length R7.length R8.length R9 R10 _ _ (H.slB 5 (.tail _ (.tail _ (.tail _ (.tail _ (.tail _ (.tail _ (.tail _ (.tail _ (.head _)))))))))) (H.slB 5 (.tail _ (.tail _ (.tail _ (.tail _ (.tail _ (.tail _ (.tail _ (.tail _ (.tail _ (.head _))))))))))) (H.slB 5 (.tail _ (.tail _ (.tail _ (.tail _ (.tail _ (.tail _ (.tail _ (.tail _ (.tail _ (.tail _ (.head _)))))))))))) (H.slB 5 (.tail _ (.tail _ (.tail _ (.tail _ (.tail _ (.tail _ (.tail _ (.tail _ (.tail _ (.tail _ (.tail _ (.head _))))))))))))) (H.slT (E := 5) HV6_9m12.out HR6_9.out (.tail _ (.tail _ (.tail _ (.tail _ (.tail _ (.tail _ (.tail _ (.tail _ (.tail _ (.tail _ (.tail _ (.tail _ (.head _)))))))))))))) (H.slT (E := 5) HV6_10m12.out HR6_10.out (.tail _ (.tail _ (.tail _ (.tail _ (.tail _ (.tail _ (.tail _ (.tail _ (.tail _ (.tail _ (.tail _ (.tail _ (.tail _ (.head _))))))))))))))) rfl (by omega) (by omega) (by omega) (by omega) (by omega) (by omega) (by omega)).mono ?_
  rintro e w18 ⟨rfl, hb⟩
  replace H := H.up hb
  clear hb
  clear b44_0 b44_1 b44_2 b44_3 b44_4 b44_5 b44_6 b44_7 b44_8 b44_9 b44_10 b45_0 b45_1 b45_2 b45_3 b45_4 b45_5 b45_6 b45_7 b45_8 b45_9 b45_10 b46_0 b46_1 b46_2 b46_3 b46_4 b46_5 b46_6 b46_7 b46_8 b46_9 b46_10 b47_0 b47_1 b47_2 b47_3 b47_4
  obtain ⟨b48_0, b48_1, b48_2, b48_3, b48_4, b48_5, b48_6, b48_7, b48_8, b48_9, b48_10⟩ := H.c11 (.head _)
  obtain ⟨b49_0, b49_1, b49_2, b49_3, b49_4, b49_5, b49_6, b49_7, b49_8, b49_9, b49_10⟩ := H.c11 (.tail _ (.tail _ (.tail _ (.tail _ (.tail _ (.tail _ (.tail _ (.tail _ (.tail _ (.tail _ (.tail _ (.tail _ (.tail _ (.tail _ (.head _)))))))))))))))
  obtain ⟨b50_0, b50_1, b50_2, b50_3, b50_4, b50_5, b50_6, b50_7, b50_8, b50_9, b50_10⟩ := H.c11 (.tail _ (.tail _ (.tail _ (.tail _ (.tail _ (.tail _ (.tail _ (.tail _ (.tail _ (.tail _ (.tail _ (.tail _ (.tail _ (.tail _ (.tail _ (.head _))))))))))))))))
  obtain ⟨b51_0, b51_1, b51_2, b51_3, b51_4⟩ := H.c5 (.tail _ (.tail _ (.tail _ (.tail _ (.tail _ (.tail _ (.tail _ (.tail _ (.tail _ (.tail _ (.tail _ (.tail _ (.tail _ (.tail _ (.tail _ (.tail _ (.tail _ (.tail _ (.tail _ (.tail _ (.tail _ (.tail _ (.head _)))))))))))))))))))))))
  go_wp2_with fail
  go_ret
  exact ⟨rfl, by have hfin := H.bel; simpa using hfin⟩
end Go.Proofs.YtdoaikanaodefaaGreatDoor
