/- The walk of the exact law of GetTc: for every argument the law answers true and leaves all memory that was there as it was. -/
import Derived.Test.YtickneafppbegaaDoorTc
import Derived.Test.YtickneafppbegaaDoorGetTcL
import Derived.Deep.RegionHeld3
namespace Go.Proofs.YtickneafppbegaaDoor
open Go.ChangeShapes Go.WideShapes Go.ChangeAt Go.RowKit

set_option maxRecDepth 100000 in
set_option maxHeartbeats 8000000 in
theorem GetTc_walk (x0_0 x0_1 x0_2 x0_3 x0_4 : Int) (v1 : Value) (l1 : List UInt8) (n2 : Int) (W : World) (h1 : Sl W W.heap.size v1 l1) (hw2 : n2 ≤ 9223372036854775807) (hg : ErrT W) :
    Calls Tryd.prog 3 #[.agg #[.int .i64 x0_0, .int .i64 x0_1, .int .i64 x0_2, .int .i64 x0_3, .int .i64 x0_4], v1, .int .i64 n2] W (Yes W) := by
  have hs1 := h1
  obtain ⟨A1, c1, rfl, p1, q1, r1, z1⟩ := h1
  unfold maxLen at q1
  clear r1 z1
  by_cases hbig1 : 1048576 < l1.length
  · have hb : (1048576 : Int) < (l1.length : Int) := by omega
    go_enter Tryd.func3, Tryd.ntmps3
    go_wp2
    go_ret
    exact ⟨rfl, ((Below.refl _ _).alloc (by simp <;> omega) _)⟩
  have hb1 : ¬ ((1048576 : Int) < (l1.length : Int)) := by omega
  obtain ⟨X0, hR⟩ : ∃ R, R = gtX (tcAt l1 x0_0 n2 (limE x0_0 x0_1 x0_2 x0_3 x0_4)) := ⟨_, rfl⟩
  have HR0 := Lib.hid hR
  clear hR
  have hxx0 : (X0 != X0) = false := by simp
  have hp1 : mkE (gtL (tcAt l1 x0_0 n2 (limE x0_0 x0_1 x0_2 x0_3 x0_4))) ≤ 4194304 := by have := gtL_mk l1 x0_0 x0_1 x0_2 x0_3 x0_4 n2; omega
  obtain ⟨R1, hR⟩ : ∃ R, R = gtL (tcAt l1 x0_0 n2 (limE x0_0 x0_1 x0_2 x0_3 x0_4)) := ⟨_, rfl⟩
  rw [← hR] at hp1
  have HR1 := Lib.hid hR
  clear hR
  obtain ⟨b0, hB⟩ : ∃ b, b = gtP (tcAt l1 x0_0 n2 (limE x0_0 x0_1 x0_2 x0_3 x0_4)) := ⟨_, rfl⟩
  have HB0 := Lib.hid hB
  clear hB
  have hbb0 : (b0 != b0) = false := by simp
  obtain ⟨b1, hB⟩ : ∃ b, b = (tcAt l1 x0_0 n2 (limE x0_0 x0_1 x0_2 x0_3 x0_4)).e := ⟨_, rfl⟩
  have HB1 := Lib.hid hB
  clear hB
  have hbb1 : (b1 != b1) = false := by simp
  have H : InvF W W [] := InvF.start W
  replace H := H.newG 23 #[.int .i64 x0_0, .int .i64 x0_1, .int .i64 x0_2, .int .i64 x0_3, .int .i64 x0_4] (W.heap.size)
  replace H : InvF W _ [segX 23 W.heap.size [.int .i64 x0_0, .int .i64 x0_1, .int .i64 x0_2, .int .i64 x0_3, .int .i64 x0_4]] := H
  go_enter Tryd.func3, Tryd.ntmps3
  obtain ⟨b1_0, b1_1, b1_2, b1_3, b1_4⟩ := H.c5 (.head _)
  go_wp2_with fail
  refine (toLimits_any x0_0 x0_1 x0_2 x0_3 x0_4   _  ).mono ?_
  rintro e w1 ⟨rfl, hb⟩
  replace H := H.up hb
  clear hb
  clear b1_0 b1_1 b1_2 b1_3 b1_4
  obtain ⟨b2_0, b2_1, b2_2, b2_3, b2_4⟩ := H.c5 (.head _)
  go_wp2_with fail
  refine (toByteS_any _ l1 _ (hs1.up H.bel) (by omega)).mono ?_
  rintro e w2 ⟨u2, rfl, ho, hb⟩
  replace H := H.moreB ho hb
  clear ho hb
  clear b2_0 b2_1 b2_2 b2_3 b2_4
  obtain ⟨b3_0, b3_1, b3_2, b3_3, b3_4⟩ := H.c5 (.tail _ (.head _))
  go_wp2_with fail
  refine (specGetTcL_any x0_0 x0_1 x0_2 x0_3 x0_4 n2 _ l1 _  (H.ownB 5 (.head _)).sp (by omega) ).mono ?_
  rw [← HR0.out, ← HR1.out, ← HB0.out, ← HB1.out]
  rintro e w3 ⟨u3, rfl, hb, hsr⟩
  obtain ⟨A3', c3', rfl, _⟩ := id hsr
  have HSR3 := Lib.hid hsr
  clear hsr
  have HBASE : Hid (Below W.heap.size W w3) := Lib.hid (H.bel.trans (hb.mono H.bel.size))
  have HH0 := H.up hb
  have HARG1 : Hid (∀ w', Below w3.heap.size w3 w' → w'.cell? ⟨W.heap.size, 0, none⟩ = some (.int .i64 x0_0) ∧ w'.cell? ⟨W.heap.size, 1, none⟩ = some (.int .i64 x0_1) ∧ w'.cell? ⟨W.heap.size, 2, none⟩ = some (.int .i64 x0_2) ∧ w'.cell? ⟨W.heap.size, 3, none⟩ = some (.int .i64 x0_3) ∧ w'.cell? ⟨W.heap.size, 4, none⟩ = some (.int .i64 x0_4)) := Lib.hid (fun w' hw => (HH0.up hw).c5 (.tail _ (.head _)))
  clear HH0 H hb
  have H := InvF.start w3
  replace hs1 := hs1.up HBASE.out
  replace hg := hg.up HBASE.out
  replace H := H.newX 27 #[.int .i64 X0, (.slice A3' R1.length c3')]
  replace H : InvF w3 _ [segX 27 w3.heap.size [.int .i64 X0, (.slice A3' R1.length c3')]] := H
  clear b3_0 b3_1 b3_2 b3_3 b3_4
  obtain ⟨b4_0, b4_1, b4_2, b4_3, b4_4⟩ := HARG1.out _ H.bel
  obtain ⟨b5_0, b5_1⟩ := H.c2 (.head _)
  go_wp2_with fail
  refine (toByteS_any _ l1 _ (hs1.up H.bel) (by omega)).mono ?_
  rintro e w4 ⟨u4, rfl, ho, hb⟩
  replace H := H.moreB ho hb
  clear ho hb
  clear b4_0 b4_1 b4_2 b4_3 b4_4 b5_0 b5_1
  obtain ⟨b6_0, b6_1, b6_2, b6_3, b6_4⟩ := HARG1.out _ H.bel
  obtain ⟨b7_0, b7_1⟩ := H.c2 (.tail _ (.head _))
  go_wp2_with fail
  refine (toLimits_any x0_0 x0_1 x0_2 x0_3 x0_4   _  ).mono ?_
  rintro e w5 ⟨rfl, hb⟩
  replace H := H.up hb
  clear hb
  clear b6_0 b6_1 b6_2 b6_3 b6_4 b7_0 b7_1
  obtain ⟨b8_0, b8_1, b8_2, b8_3, b8_4⟩ := HARG1.out _ H.bel
  obtain ⟨b9_0, b9_1⟩ := H.c2 (.tail _ (.head _))
  go_wp2_with fail
  refine (implGetTcL_any x0_0 x0_1 x0_2 x0_3 x0_4 n2 _ l1 _  (H.ownB 5 (.head _)).sp (by omega) hw2 (hg.up H.bel)).mono ?_
  rw [← HR0.out, ← HR1.out, ← HB0.out, ← HB1.out]
  rintro e w6 ⟨u6_1, vs6_1, rfl, hv6_1, K⟩
  have HV6_1 := Lib.hid hv6_1
  obtain ⟨A6_1', c6_1', rfl⟩ := K.openE hv6_1 (.head _)
  clear hv6_1
  have HT := H.moreF K
  clear K
  replace H : InvF w3 w6 [segE (.slice A6_1' R1.length c6_1') vs6_1 R1, segB 5 u4 l1, segX 27 w3.heap.size [.int .i64 X0, (.slice A3' R1.length c3')]] := HT
  clear HT
  replace H := H.newX 27 #[.int .i64 X0, (.slice A6_1' R1.length c6_1')]
  replace H : InvF w3 _ [segX 27 w6.heap.size [.int .i64 X0, (.slice A6_1' R1.length c6_1')], segE (.slice A6_1' R1.length c6_1') vs6_1 R1, segB 5 u4 l1, segX 27 w3.heap.size [.int .i64 X0, (.slice A3' R1.length c3')]] := H
  clear b8_0 b8_1 b8_2 b8_3 b8_4 b9_0 b9_1
  obtain ⟨b10_0, b10_1, b10_2, b10_3, b10_4⟩ := HARG1.out _ H.bel
  obtain ⟨b11_0, b11_1⟩ := H.c2 (.head _)
  obtain ⟨b12_0, b12_1⟩ := H.c2 (.tail _ (.tail _ (.tail _ (.head _))))
  go_wp2_with fail
  refine (eqTc_any X0 _ _ R1 _ (H.slE HV6_1.out (.tail _ (.head _))) (HSR3.out.up H.bel)).mono ?_
  rintro e w7 ⟨rfl, hb⟩
  replace H := H.up hb
  clear hb
  clear b10_0 b10_1 b10_2 b10_3 b10_4 b11_0 b11_1 b12_0 b12_1
  obtain ⟨b13_0, b13_1, b13_2, b13_3, b13_4⟩ := HARG1.out _ H.bel
  obtain ⟨b14_0, b14_1⟩ := H.c2 (.head _)
  obtain ⟨b15_0, b15_1⟩ := H.c2 (.tail _ (.tail _ (.tail _ (.head _))))
  go_wp2_with fail
  refine (toByteS_any _ l1 _ (hs1.up H.bel) (by omega)).mono ?_
  rintro e w8 ⟨u8, rfl, ho, hb⟩
  replace H := H.moreB ho hb
  clear ho hb
  clear b13_0 b13_1 b13_2 b13_3 b13_4 b14_0 b14_1 b15_0 b15_1
  obtain ⟨b16_0, b16_1, b16_2, b16_3, b16_4⟩ := HARG1.out _ H.bel
  obtain ⟨b17_0, b17_1⟩ := H.c2 (.tail _ (.head _))
  obtain ⟨b18_0, b18_1⟩ := H.c2 (.tail _ (.tail _ (.tail _ (.tail _ (.head _)))))
  go_wp2_with fail
  refine (eqByteS_any _ _ l1 _ (H.slB 5 (.tail _ (.tail _ (.tail _ (.head _))))) (H.slB 5 (.head _))).mono ?_
  rintro e _ ⟨rfl, d9, rfl⟩
  replace H := H.drewN d9
  replace H := H.sub (qs := [segX 27 w6.heap.size [.int .i64 X0, (.slice A6_1' R1.length c6_1')], segE (.slice A6_1' R1.length c6_1') vs6_1 R1, segB 5 u4 l1, segX 27 w3.heap.size [.int .i64 X0, (.slice A3' R1.length c3')]]) (.cons _ (.cons_cons _ (.cons_cons _ (.cons_cons _ (.cons_cons _ .slnil)))))
  replace H : InvF w3 _ [segB 5 u4 l1, segX 27 w6.heap.size [.int .i64 X0, (.slice A6_1' R1.length c6_1')], segE (.slice A6_1' R1.length c6_1') vs6_1 R1, segX 27 w3.heap.size [.int .i64 X0, (.slice A3' R1.length c3')]] := H.front 2 rfl
  clear b16_0 b16_1 b16_2 b16_3 b16_4 b17_0 b17_1 b18_0 b18_1
  obtain ⟨b19_0, b19_1, b19_2, b19_3, b19_4⟩ := HARG1.out _ H.bel
  obtain ⟨b20_0, b20_1⟩ := H.c2 (.tail _ (.head _))
  obtain ⟨b21_0, b21_1⟩ := H.c2 (.tail _ (.tail _ (.tail _ (.head _))))
  go_wp2_with fail
  refine (markByteS_z _ l1 (1) _ _ _ (H.ownB 5 (.head _)) rfl (by omega) (by omega)).mono ?_
  rintro e w10 ⟨rfl, ho, hg⟩
  replace H := H.wroteB ho hg
  clear ho hg
  have hltk : ¬ ((1 : Int) + (l1.length : Int) < 0) := by omega
  clear b19_0 b19_1 b19_2 b19_3 b19_4 b20_0 b20_1 b21_0 b21_1
  obtain ⟨b22_0, b22_1, b22_2, b22_3, b22_4⟩ := HARG1.out _ H.bel
  obtain ⟨b23_0, b23_1⟩ := H.c2 (.tail _ (.head _))
  obtain ⟨b24_0, b24_1⟩ := H.c2 (.tail _ (.tail _ (.tail _ (.head _))))
  go_wp2_with fail
  refine (eqTc_any X0 _ _ R1 _ (H.slE HV6_1.out (.tail _ (.tail _ (.head _)))) (HSR3.out.up H.bel)).mono ?_
  rintro e w11 ⟨rfl, hb⟩
  replace H := H.up hb
  clear hb
  replace H := H.sub (qs := [segX 27 w6.heap.size [.int .i64 X0, (.slice A6_1' R1.length c6_1')], segE (.slice A6_1' R1.length c6_1') vs6_1 R1, segX 27 w3.heap.size [.int .i64 X0, (.slice A3' R1.length c3')]]) (.cons _ (.cons_cons _ (.cons_cons _ (.cons_cons _ .slnil))))
  replace H : InvF w3 _ [segE (.slice A6_1' R1.length c6_1') vs6_1 R1, segX 27 w6.heap.size [.int .i64 X0, (.slice A6_1' R1.length c6_1')], segX 27 w3.heap.size [.int .i64 X0, (.slice A3' R1.length c3')]] := H.front 1 rfl
  clear b22_0 b22_1 b22_2 b22_3 b22_4 b23_0 b23_1 b24_0 b24_1
  obtain ⟨b25_0, b25_1, b25_2, b25_3, b25_4⟩ := HARG1.out _ H.bel
  obtain ⟨b26_0, b26_1⟩ := H.c2 (.tail _ (.head _))
  obtain ⟨b27_0, b27_1⟩ := H.c2 (.tail _ (.tail _ (.head _)))
  go_wp2_with fail
  refine (markTc_z X0 w3 _ _ _ R1 _ (1) _ HV6_1.out H rfl (by omega) (by omega)).mono ?_
  rintro e w12 ⟨rfl, K⟩
  replace H := K
  clear K
  have HV6_1m12 : Hid (vs6_1.length = (marksE (1) R1).length) := Lib.hid (by rw [marksE_length]; exact HV6_1.out)
  replace H : InvF w3 w12 [segE (.slice A6_1' R1.length c6_1') vs6_1 (marksE (1) R1), segX 27 w6.heap.size [.int .i64 X0, (.slice A6_1' R1.length c6_1')], segX 27 w3.heap.size [.int .i64 X0, (.slice A3' R1.length c3')]] := H
  clear b25_0 b25_1 b25_2 b25_3 b25_4 b26_0 b26_1 b27_0 b27_1
  obtain ⟨b28_0, b28_1, b28_2, b28_3, b28_4⟩ := HARG1.out _ H.bel
  obtain ⟨b29_0, b29_1⟩ := H.c2 (.tail _ (.head _))
  obtain ⟨b30_0, b30_1⟩ := H.c2 (.tail _ (.tail _ (.head _)))
  go_wp2_with fail
  refine (heldTc_z X0 _ 1 R1 _ _ (H.slE HV6_1m12.out (.head _)) rfl (by omega) (by omega)).mono ?_
  rintro e w13 ⟨rfl, hb⟩
  replace H := H.up hb
  clear hb
  have hltL : ¬ ((1 : Int) + (mkE R1 : Int) < 0) := by omega
  have hneL : ((1 : Int) + (mkE R1 : Int) != 1 + (mkE R1 : Int)) = false := by simp
  clear b28_0 b28_1 b28_2 b28_3 b28_4 b29_0 b29_1 b30_0 b30_1
  obtain ⟨b31_0, b31_1, b31_2, b31_3, b31_4⟩ := HARG1.out _ H.bel
  obtain ⟨b32_0, b32_1⟩ := H.c2 (.tail _ (.head _))
  obtain ⟨b33_0, b33_1⟩ := H.c2 (.tail _ (.tail _ (.head _)))
  go_wp2_with fail
  refine (toLimits_any x0_0 x0_1 x0_2 x0_3 x0_4   _  ).mono ?_
  rintro e w14 ⟨rfl, hb⟩
  replace H := H.up hb
  clear hb
  clear b31_0 b31_1 b31_2 b31_3 b31_4 b32_0 b32_1 b33_0 b33_1
  obtain ⟨b34_0, b34_1, b34_2, b34_3, b34_4⟩ := HARG1.out _ H.bel
  obtain ⟨b35_0, b35_1⟩ := H.c2 (.tail _ (.head _))
  obtain ⟨b36_0, b36_1⟩ := H.c2 (.tail _ (.tail _ (.head _)))
  go_wp2_with fail
  refine (toByteS_any _ l1 _ (hs1.up H.bel) (by omega)).mono ?_
  rintro e w15 ⟨u15, rfl, ho, hb⟩
  replace H := H.moreB ho hb
  clear ho hb
  clear b34_0 b34_1 b34_2 b34_3 b34_4 b35_0 b35_1 b36_0 b36_1
  obtain ⟨b37_0, b37_1, b37_2, b37_3, b37_4⟩ := HARG1.out _ H.bel
  obtain ⟨b38_0, b38_1⟩ := H.c2 (.tail _ (.tail _ (.head _)))
  obtain ⟨b39_0, b39_1⟩ := H.c2 (.tail _ (.tail _ (.tail _ (.head _))))
  go_wp2_with fail
  refine (implGetTcL_any x0_0 x0_1 x0_2 x0_3 x0_4 n2 _ l1 _  (H.ownB 5 (.head _)).sp (by omega) hw2 (hg.up H.bel)).mono ?_
  rw [← HR0.out, ← HR1.out, ← HB0.out, ← HB1.out]
  rintro e w16 ⟨u16_1, vs16_1, rfl, hv16_1, K⟩
  have HV16_1 := Lib.hid hv16_1
  obtain ⟨A16_1', c16_1', rfl⟩ := K.openE hv16_1 (.head _)
  clear hv16_1
  have HT := H.moreF K
  clear K
  replace H : InvF w3 w16 [segE (.slice A16_1' R1.length c16_1') vs16_1 R1, segB 5 u15 l1, segE (.slice A6_1' R1.length c6_1') vs6_1 (marksE (1) R1), segX 27 w6.heap.size [.int .i64 X0, (.slice A6_1' R1.length c6_1')], segX 27 w3.heap.size [.int .i64 X0, (.slice A3' R1.length c3')]] := HT
  clear HT
  replace H := H.newX 27 #[.int .i64 X0, (.slice A16_1' R1.length c16_1')]
  replace H : InvF w3 _ [segX 27 w16.heap.size [.int .i64 X0, (.slice A16_1' R1.length c16_1')], segE (.slice A16_1' R1.length c16_1') vs16_1 R1, segB 5 u15 l1, segE (.slice A6_1' R1.length c6_1') vs6_1 (marksE (1) R1), segX 27 w6.heap.size [.int .i64 X0, (.slice A6_1' R1.length c6_1')], segX 27 w3.heap.size [.int .i64 X0, (.slice A3' R1.length c3')]] := H
  clear b37_0 b37_1 b37_2 b37_3 b37_4 b38_0 b38_1 b39_0 b39_1
  obtain ⟨b40_0, b40_1, b40_2, b40_3, b40_4⟩ := HARG1.out _ H.bel
  obtain ⟨b41_0, b41_1⟩ := H.c2 (.head _)
  obtain ⟨b42_0, b42_1⟩ := H.c2 (.tail _ (.tail _ (.tail _ (.tail _ (.head _)))))
  obtain ⟨b43_0, b43_1⟩ := H.c2 (.tail _ (.tail _ (.tail _ (.tail _ (.tail _ (.head _))))))
  go_wp2_with fail
  refine (eqTc_any X0 _ _ R1 _ (H.slE HV16_1.out (.tail _ (.head _))) (HSR3.out.up H.bel)).mono ?_
  rintro e w17 ⟨rfl, hb⟩
  replace H := H.up hb
  clear hb
  clear b40_0 b40_1 b40_2 b40_3 b40_4 b41_0 b41_1 b42_0 b42_1 b43_0 b43_1
  obtain ⟨b44_0, b44_1, b44_2, b44_3, b44_4⟩ := HARG1.out _ H.bel
  obtain ⟨b45_0, b45_1⟩ := H.c2 (.head _)
  obtain ⟨b46_0, b46_1⟩ := H.c2 (.tail _ (.tail _ (.tail _ (.tail _ (.head _)))))
  obtain ⟨b47_0, b47_1⟩ := H.c2 (.tail _ (.tail _ (.tail _ (.tail _ (.tail _ (.head _))))))
  go_wp2_with fail
  refine (heldTc_z X0 _ 1 R1 _ _ (H.slE HV6_1m12.out (.tail _ (.tail _ (.tail _ (.head _))))) rfl (by omega) (by omega)).mono ?_
  rintro e w18 ⟨rfl, hb⟩
  replace H := H.up hb
  clear hb
  clear b44_0 b44_1 b44_2 b44_3 b44_4 b45_0 b45_1 b46_0 b46_1 b47_0 b47_1
  obtain ⟨b48_0, b48_1, b48_2, b48_3, b48_4⟩ := HARG1.out _ H.bel
  obtain ⟨b49_0, b49_1⟩ := H.c2 (.head _)
  obtain ⟨b50_0, b50_1⟩ := H.c2 (.tail _ (.tail _ (.tail _ (.tail _ (.head _)))))
  obtain ⟨b51_0, b51_1⟩ := H.c2 (.tail _ (.tail _ (.tail _ (.tail _ (.tail _ (.head _))))))
  go_wp2_with fail
  go_ret
  exact ⟨rfl, by have hfin := HBASE.out.trans (H.bel.mono HBASE.out.size); simpa using hfin⟩
end Go.Proofs.YtickneafppbegaaDoor
