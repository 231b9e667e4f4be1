/- The walk of the exact law of TcHigh: for every argument the law answers true and leaves all memory that was there as it was. -/
import Derived.Test.YtickneafppbegaaTc
import Derived.Test.YtickneafppbegaaTcHigh
import Derived.Deep.RegionHeld3
namespace Go.Proofs.Ytickneafppbegaa
open Go.ChangeShapes Go.WideShapes Go.ChangeAt Go.RowKit

set_option maxRecDepth 100000 in
set_option maxHeartbeats 8000000 in
theorem TcHigh_walk (x0_0 : Int) (v0_1 : Value) (l0_1 : List Et) (W : World) (h0_1 : SlE W W.heap.size v0_1 l0_1)  :
    Calls Try.prog 6 #[.agg #[.int .i64 x0_0, v0_1]] W (Yes W) := by
  have hs0_1 := h0_1
  obtain ⟨A0_1, c0_1, rfl, p0_1, q0_1, r0_1, z0_1⟩ := h0_1
  unfold maxLen at q0_1
  clear r0_1 z0_1
  by_cases hbig : (1048576 : Int) < (l0_1.length : Int) + (volE l0_1 : Int)
  · have HZ0 : Hid (szTZ l0_1 (1048576 : Int) = -1) := Lib.hid (by exact szTZ_big hbig)
    clear hbig
    have H : InvF W W [] := InvF.start W
    replace H := H.newG 26 #[.int .i64 x0_0, .slice A0_1 l0_1.length c0_1] (W.heap.size)
    replace H : InvF W _ [segX 26 W.heap.size [.int .i64 x0_0, (.slice A0_1 l0_1.length c0_1)]] := H
    go_enter Try.func6, Try.ntmps6
    obtain ⟨b1_0, b1_1⟩ := H.c2 (.head _)
    go_wp2_with fail
    refine (szTc_any x0_0 _ l0_1 1048576 _ (hs0_1.up H.bel) (by omega) (by omega)).mono ?_
    rw [HZ0.out]
    rintro e wz0 ⟨rfl, hb⟩
    replace H := H.up hb
    clear hb
    clear b1_0 b1_1
    obtain ⟨b2_0, b2_1⟩ := H.c2 (.head _)
    go_wp2
    go_ret
    exact ⟨rfl, H.bel⟩
  obtain ⟨zz0, hz⟩ : ∃ z, z = (1048576 : Int) - ((l0_1.length : Int) + (volE l0_1 : Int)) := ⟨_, rfl⟩
  have HZ0 : Hid (szTZ l0_1 (1048576 : Int) = zz0) := Lib.hid (by rw [hz]; exact szTZ_ok hbig)
  have hzlo0 : 0 ≤ zz0 := by omega
  have hzhi0 : zz0 ≤ 1048576 := by omega
  have hzn0 : ¬ (zz0 < 0) := by omega
  have hL0_1 : l0_1.length ≤ 1048576 := by omega
  have hN0_1 : volE l0_1 ≤ 1048576 := by omega
  have hM0_1 : mkE l0_1 ≤ 4194304 := by unfold mkE; omega
  have hT0 : l0_1.length + volE l0_1 ≤ 1048576 := by omega
  clear hbig hz
  obtain ⟨b0, hB⟩ : ∃ b, b = highE l0_1 := ⟨_, rfl⟩
  have HB0 := Lib.hid hB
  clear hB
  have hbb0 : (b0 != b0) = false := by simp
  have H : InvF W W [] := InvF.start W
  replace H := H.newG 26 #[.int .i64 x0_0, .slice A0_1 l0_1.length c0_1] (W.heap.size)
  replace H : InvF W _ [segX 26 W.heap.size [.int .i64 x0_0, (.slice A0_1 l0_1.length c0_1)]] := H
  go_enter Try.func6, Try.ntmps6
  obtain ⟨b3_0, b3_1⟩ := H.c2 (.head _)
  go_wp2_with fail
  refine (szTc_any x0_0 _ l0_1 1048576 _ (hs0_1.up H.bel) (by omega) (by omega)).mono ?_
  rw [HZ0.out]
  rintro e wz0 ⟨rfl, hb⟩
  replace H := H.up hb
  clear hb
  clear b3_0 b3_1
  obtain ⟨b4_0, b4_1⟩ := H.c2 (.head _)
  go_wp2_with fail
  refine (toTc_any x0_0 _ l0_1 _ (hs0_1.up H.bel) hL0_1 hN0_1).mono ?_
  rintro e w1 ⟨u1_1, vs1_1, rfl, hv1_1, K⟩
  have HV1_1 := Lib.hid hv1_1
  obtain ⟨A1_1', c1_1', rfl⟩ := K.openE hv1_1 (.head _)
  clear hv1_1
  have HT := H.moreF K
  clear K
  replace H : InvF W w1 [segE (.slice A1_1' l0_1.length c1_1') vs1_1 l0_1, segX 26 W.heap.size [.int .i64 x0_0, (.slice A0_1 l0_1.length c0_1)]] := HT
  clear HT
  clear b4_0 b4_1
  obtain ⟨b5_0, b5_1⟩ := H.c2 (.tail _ (.head _))
  go_wp2_with fail
  refine (specTcHigh_any x0_0 _ l0_1 _ (H.slE HV1_1.out (.head _))  ).mono ?_
  rw [← HB0.out]
  rintro e w2 ⟨rfl, hb⟩
  replace H := H.up hb
  clear hb
  replace H := H.sub (qs := [segX 26 W.heap.size [.int .i64 x0_0, (.slice A0_1 l0_1.length c0_1)]]) (.cons _ (.cons_cons _ .slnil))
  clear b5_0 b5_1
  obtain ⟨b6_0, b6_1⟩ := H.c2 (.head _)
  go_wp2_with fail
  refine (toTc_any x0_0 _ l0_1 _ (hs0_1.up H.bel) hL0_1 hN0_1).mono ?_
  rintro e w3 ⟨u3_1, vs3_1, rfl, hv3_1, K⟩
  have HV3_1 := Lib.hid hv3_1
  obtain ⟨A3_1', c3_1', rfl⟩ := K.openE hv3_1 (.head _)
  clear hv3_1
  have HT := H.moreF K
  clear K
  replace H : InvF W w3 [segE (.slice A3_1' l0_1.length c3_1') vs3_1 l0_1, segX 26 W.heap.size [.int .i64 x0_0, (.slice A0_1 l0_1.length c0_1)]] := HT
  clear HT
  replace H := H.newX 33 #[.int .i64 x0_0, (.slice A3_1' l0_1.length c3_1')]
  replace H : InvF W _ [segX 33 w3.heap.size [.int .i64 x0_0, (.slice A3_1' l0_1.length c3_1')], segE (.slice A3_1' l0_1.length c3_1') vs3_1 l0_1, segX 26 W.heap.size [.int .i64 x0_0, (.slice A0_1 l0_1.length c0_1)]] := H
  clear b6_0 b6_1
  obtain ⟨b7_0, b7_1⟩ := H.c2 (.head _)
  obtain ⟨b8_0, b8_1⟩ := H.c2 (.tail _ (.tail _ (.head _)))
  go_wp2_with fail
  refine (implTcHigh_any x0_0 _ l0_1 _ (H.slE HV3_1.out (.tail _ (.head _)))  ).mono ?_
  rw [← HB0.out]
  rintro e w4 ⟨rfl, hb⟩
  replace H := H.up hb
  clear hb
  clear b7_0 b7_1 b8_0 b8_1
  obtain ⟨b9_0, b9_1⟩ := H.c2 (.head _)
  obtain ⟨b10_0, b10_1⟩ := H.c2 (.tail _ (.tail _ (.head _)))
  have HE0 := Lib.hid (H.drewN 1)
  have HK0 := Lib.hid (ten2 (HE0.out.c2 (.head _)) (HE0.out.c2 (.tail _ (.tail _ (.head _)))))
  go_wp2_with fail
  go_region_held3 (fun w' => w'.cell? ⟨w3.heap.size, 0, none⟩ = some (.int .i64 x0_0) ∧ w'.cell? ⟨w3.heap.size, 1, none⟩ = some (.slice A3_1' l0_1.length c3_1') ∧ w'.cell? ⟨W.heap.size, 0, none⟩ = some (.int .i64 x0_0) ∧ w'.cell? ⟨W.heap.size, 1, none⟩ = some (.slice A0_1 l0_1.length c0_1))
    (first
      | exact HK0.out
      | exact HK1.out
      | exact HK2.out)
    (first
      | (go_at_call_of 11 (Value.int IntKind.i64 x0_0); refine (toTc_any x0_0 _ l0_1 _ (hs0_1.up HE0.out.bel) hL0_1 hN0_1).mono ?_; rintro e w5 ⟨u5_1, vs5_1, rfl, hv5_1, K⟩; have HV5_1 := Lib.hid hv5_1; obtain ⟨A5_1', c5_1', rfl⟩ := K.openE hv5_1 (.head _); clear hv5_1; have HT := HE0.out.moreF K; clear K; have HX : InvF W w5 [segE (.slice A5_1' l0_1.length c5_1') vs5_1 l0_1, segX 33 w3.heap.size [.int .i64 x0_0, (.slice A3_1' l0_1.length c3_1')], segE (.slice A3_1' l0_1.length c3_1') vs3_1 l0_1, segX 26 W.heap.size [.int .i64 x0_0, (.slice A0_1 l0_1.length c0_1)]] := HT; clear HT; have HE1 := Lib.hid HX; clear HX; have HK1 := Lib.hid (ten2 (HE1.out.c2 (.tail _ (.head _))) (HE1.out.c2 (.tail _ (.tail _ (.tail _ (.head _)))))))
      | (go_at_call 13; refine (eqTc_any x0_0 _ _ l0_1 _ (HE1.out.slE HV3_1.out (.tail _ (.tail _ (.head _)))) (HE1.out.slE HV5_1.out (.head _))).mono ?_; rintro e w6 ⟨rfl, hb⟩; have HX := HE1.out.up hb; clear hb; have HE2 := Lib.hid HX; clear HX; have HK2 := Lib.hid (ten2 (HE2.out.c2 (.tail _ (.head _))) (HE2.out.c2 (.tail _ (.tail _ (.tail _ (.head _))))))))
  clear H b9_0 b9_1 b10_0 b10_1
  have H := HE2.out
  clear HE0 HK0 HE1 HK1 HE2 HK2
  replace H := H.sub (qs := [segX 33 w3.heap.size [.int .i64 x0_0, (.slice A3_1' l0_1.length c3_1')], segE (.slice A3_1' l0_1.length c3_1') vs3_1 l0_1, segX 26 W.heap.size [.int .i64 x0_0, (.slice A0_1 l0_1.length c0_1)]]) (.cons _ (.cons_cons _ (.cons_cons _ (.cons_cons _ .slnil))))
  obtain ⟨b11_0, b11_1⟩ := H.c2 (.head _)
  obtain ⟨b12_0, b12_1⟩ := H.c2 (.tail _ (.tail _ (.head _)))
  go_wp2_with fail
  go_ret
  exact ⟨rfl, by have hfin := H.bel; simpa using hfin⟩
end Go.Proofs.Ytickneafppbegaa
