/- The walk of the law FnBits: for every argument the law answers true and leaves all memory that was there as it was. -/
import Derived.Test.YtoaokhhpgoabmaaDoorDraw
import Derived.Test.YtoaokhhpgoabmaaDoorOf
import Derived.Test.YtoaokhhpgoabmaaDoorGetBits
namespace Go.Proofs.YtoaokhhpgoabmaaDoor
open Go.ChangeShapes Go.WideShapes Go.ChangeAt Go.RowKit

theorem cnt_bound (l : List UInt8) (h : l.length ≤ 2) : 0 ≤ cntB l ∧ cntB l ≤ 16 := by
  have h1 : (listN l).length ≤ 8 * l.length := by
    unfold listN
    exact Nat.le_trans (List.length_filter_le _ _) (by simp)
  unfold cntB
  omega
theorem two_facts {a b : List UInt8} {n : Int} (ha : okP a n) (hb : okP b n) :
    (a.length ≤ 2 ∧ b.length ≤ 2) ∧ Hid (ofL (listI a) n = a ∧ ofB (listI a) n = true) ∧ Hid ((andL a b).length ≤ 2 ∧ (orL a b).length ≤ 2) ∧ Hid (inB (andL a b) a = true ∧ inB a (orL a b) = true) ∧
      ∃ p q r s : Int, Hid (cntB (andL a b) = p ∧ cntB (orL a b) = q ∧ cntB a = r ∧ cntB b = s) ∧ (0 ≤ p ∧ p ≤ 16 ∧ 0 ≤ q ∧ q ≤ 16 ∧ 0 ≤ r ∧ r ≤ 16 ∧ 0 ≤ s ∧ s ≤ 16) ∧ (p + q != r + s) = false := by
  obtain ⟨la, la2⟩ := okP_len ha
  obtain ⟨lb, lb2⟩ := okP_len hb
  have hl : a.length = b.length := by omega
  have l1 : (andL a b).length ≤ 2 := by rw [andL_length hl]; exact la2
  have l2 : (orL a b).length ≤ 2 := by rw [orL_length hl]; exact la2
  refine ⟨⟨la2, lb2⟩, Lib.hid (ofL_listI ha), Lib.hid ⟨l1, l2⟩, Lib.hid ⟨inB_and hl, inB_or hl⟩, _, _, _, _, Lib.hid ⟨rfl, rfl, rfl, rfl⟩, ?_, by rw [cnt_and_or hl]; simp⟩
  have b1 := cnt_bound _ l1
  have b2 := cnt_bound _ l2
  have b3 := cnt_bound a la2
  have b4 := cnt_bound b lb2
  exact ⟨b1.1, b1.2, b2.1, b2.2, b3.1, b3.2, b4.1, b4.2⟩
theorem one_facts {a : List UInt8} {n i : Int} (ha : okP a n) (h0 : 0 ≤ i) (h1 : i < n) :
    ∃ y z : List UInt8, Hid (setL a n i true = y ∧ setB a n i = true ∧ setL y n i false = z ∧ setB y n i = true) ∧ (y.length ≤ 2 ∧ z.length ≤ 2) ∧ Hid (hasB y i = true ∧ hasB z i = false ∧ inB z a = true) := by
  obtain ⟨I, rfl⟩ := Int.eq_ofNat_of_zero_le h0
  obtain ⟨a1, a2, a3, a4⟩ := set_facts ha h1 true
  obtain ⟨b1, b2, b3, b4⟩ := set_facts a2 h1 false
  have la := (okP_len ha).2
  refine ⟨_, _, Lib.hid ⟨rfl, a1, rfl, b1⟩, ⟨by omega, by omega⟩, Lib.hid ⟨?_, ?_, ?_⟩⟩
  · rw [hasB_at, a4, if_pos rfl]
  · rw [hasB_at, b4, if_pos rfl]
  · refine inB_yes (by omega) fun j hj => ?_
    rw [b4] at hj
    by_cases e : j = I
    · rw [if_pos e] at hj
      cases hj
    · rw [if_neg e, a4, if_neg e] at hj
      exact hj
theorem gb_back {a : List UInt8} {n : Int} (ha : okP a n) : gb ([] ++ a ++ [1]) 0 n = (a, sizeB n, 0) := by
  have hl := okP_len ha
  have hs := sizeB_ok ha.1
  have hr : rawOk ([] ++ a ++ [1]) 0 (sizeB n) := ⟨by omega, by omega, by simp; omega⟩
  have e : rawL ([] ++ a ++ [1]) 0 (sizeB n) = a := by
    rw [(raw_yes hr).1, ← hl.1]
    simp
  rw [gb_ok ha.1 hr (by rw [e]; exact ha), e, Int.zero_add]
set_option maxRecDepth 100000 in
set_option maxHeartbeats 4000000 in
theorem FnBits_walk (v0 : Value) (l0 : List UInt8) (W : World) (h0 : Sl W W.heap.size v0 l0) (hg : ErrT W) :
    Calls Tryd.prog 3 #[v0] W (Yes W) := by
  obtain ⟨i0, hi, hz0, hz1, hz2⟩ := info_parts u8info
  have hs0 := h0
  obtain ⟨A0, c0, rfl, p0, q0, r0, z0⟩ := h0
  unfold maxLen at q0
  clear r0 z0
  by_cases hbig0 : 1048576 < l0.length
  · have hb : (1048576 : Int) < (l0.length : Int) := by omega
    go_enter Tryd.func3, Tryd.ntmps3
    go_wp2
    go_ret
    exact ⟨rfl, Below.refl _ _⟩
  have hb0 : ¬ ((1048576 : Int) < (l0.length : Int)) := by omega
  have H : Inv 5 W W [] := Inv.start W
  go_enter Tryd.func3, Tryd.ntmps3
  go_wp2_with fail
  refine (MakeNum_any _ l0 10 _ (H.old hs0) (by omega) (by omega) (by omega)).mono ?_
  rintro e w1 ⟨x, rfl, hx0, hx1, hb⟩
  replace H := H.up hb
  clear hb
  go_wp2_with fail
  generalize hn : 1 + x = n
  have hnc : cntOk n := ⟨by omega, by omega⟩
  have hn0 : 0 < n := hnc.1
  have hn1 : n ≤ 10 := hnc.2
  clear hn hx0 hx1
  refine (MakeBits_any _ l0 n 1 _ (H.old hs0) (by omega) hnc (by omega) (by omega)).mono ?_
  rintro e w2 ⟨ua, a, rfl, ha, ho, hb⟩
  replace H := H.more ho hb
  clear ho hb
  go_wp2_with fail
  refine (MakeBits_any _ l0 n 2 _ (H.old hs0) (by omega) hnc (by omega) (by omega)).mono ?_
  rintro e w3 ⟨ub, b, rfl, hb', ho, hb⟩
  replace H := H.more ho hb
  clear ho hb
  obtain ⟨⟨la, lb⟩, HO, HLN, HI, cp, cq, cr, cs, HC, ⟨k1, k2, k3, k4, k5, k6, k7, k8⟩, hne⟩ := two_facts ha hb'
  have hob := Lib.hid (okB_yes ha)
  have Hgb := Lib.hid (gb_back ha)
  have Ha := Lib.hid ha
  have Hnc := Lib.hid hnc
  clear ha hb' hnc
  go_wp2_with fail
  refine (implBitsList_any _ a _ (H.sl (by simp)) (by omega)).mono ?_
  rintro e w4 ⟨ul, rfl, hol, hb⟩
  replace H := H.up hb
  clear hb
  go_wp2_with fail
  refine (implBitsOf_any _ (listI a) n _ hol.sl (by have := listI_len a; omega)).mono ?_
  rw [HO.out.1, HO.out.2]
  rintro e w5 ⟨ux, rfl, ho, hb⟩
  replace H := H.more ho hb
  clear ho hb hol
  go_wp2_with fail
  refine (implBitsand_any _ _ a b _ (H.sl (by simp)) (H.sl (by simp)) (by omega) (by omega)).mono ?_
  rintro e w6 ⟨ud, rfl, ho, hb⟩
  replace H := H.more ho hb
  clear ho hb
  go_wp2_with fail
  refine (implBitsor_any _ _ a b _ (H.sl (by simp)) (H.sl (by simp)) (by omega) (by omega)).mono ?_
  rintro e w7 ⟨uo, rfl, ho, hb⟩
  replace H := H.more ho hb
  clear ho hb
  have haa : (a == a) = true := by simp
  go_wp2_with fail
  refine (implSameBytes_any _ _ a a _ (H.sl (by simp)) (H.sl (by simp))).mono ?_
  rw [haa]
  rintro e w8 ⟨rfl, rfl⟩
  go_wp2_with fail
  refine (implBitsOk_any _ a n _ (H.sl (by simp)) (by omega)).mono ?_
  rw [hob.out]
  rintro e w8 ⟨rfl, hb⟩
  replace H := H.up hb
  clear hb
  go_wp2_with fail
  refine (implBitsCount_any _ (andL a b) _ (H.sl (by simp)) (by have := HLN.out.1; omega)).mono ?_
  rw [HC.out.1]
  rintro e w9 ⟨rfl, hb⟩
  replace H := H.up hb
  clear hb
  go_wp2_with fail
  refine (implBitsCount_any _ (orL a b) _ (H.sl (by simp)) (by have := HLN.out.2; omega)).mono ?_
  rw [HC.out.2.1]
  rintro e w10 ⟨rfl, hb⟩
  replace H := H.up hb
  clear hb
  go_wp2_with fail
  refine (implBitsCount_any _ a _ (H.sl (by simp)) (by omega)).mono ?_
  rw [HC.out.2.2.1]
  rintro e w11 ⟨rfl, hb⟩
  replace H := H.up hb
  clear hb
  go_wp2_with fail
  refine (implBitsCount_any _ b _ (H.sl (by simp)) (by omega)).mono ?_
  rw [HC.out.2.2.2]
  rintro e w12 ⟨rfl, hb⟩
  replace H := H.up hb
  clear hb
  go_wp2_with fail
  refine (implBitsIn_any _ _ (andL a b) a _ (H.sl (by simp)) (H.sl (by simp)) (by have := HLN.out.1; omega) (by omega)).mono ?_
  rw [HI.out.1]
  rintro e w13 ⟨rfl, hb⟩
  replace H := H.up hb
  clear hb
  go_wp2_with fail
  refine (implBitsIn_any _ _ a (orL a b) _ (H.sl (by simp)) (H.sl (by simp)) (by omega) (by have := HLN.out.2; omega)).mono ?_
  rw [HI.out.2]
  rintro e w14 ⟨rfl, hb⟩
  replace H := H.up hb
  clear hb
  replace H := H.sub (qs := [(ua, a)]) (by simp)
  go_wp2_with fail
  refine (MakeNum_any _ l0 n _ (H.old hs0) (by omega) hn0 (by omega)).mono ?_
  rintro e w15 ⟨i, rfl, hi0, hi1, hb⟩
  replace H := H.up hb
  clear hb
  obtain ⟨y, z, HS, ⟨ly, lz⟩, HH⟩ := one_facts Ha.out hi0 hi1
  go_wp2_with fail
  refine (implBitsSet_any _ a n i true _ (H.sl (by simp)) (by omega)).mono ?_
  rw [HS.out.1, HS.out.2.1]
  rintro e w16 ⟨uy, rfl, ho, hb⟩
  replace H := H.more ho hb
  clear ho hb
  go_wp2_with fail
  refine (implBitsSet_any _ y n i false _ (H.sl (by simp)) (by omega)).mono ?_
  rw [HS.out.2.2.1, HS.out.2.2.2]
  rintro e w17 ⟨uz, rfl, ho, hb⟩
  replace H := H.more ho hb
  clear ho hb
  have hstart : Own 5 (w17.alloc (.cells #[] 5)) w17.heap.size (.slice (some ⟨w17.heap.size, 0, none⟩) 0 0) [] :=
    World.ownsRow_lit w17 #[] 0 (Nat.le_refl _) (by simp [maxLen]) rfl
  have hbstart : Below w17.heap.size w17 (w17.alloc (.cells #[] 5)) := (Below.refl _ _).alloc (Nat.le_refl _) _
  have hsa := (H.sl (show (ua, a) ∈ [(uz, z), (uy, y), (ua, a)] by simp)).up hbstart
  have tokA : True := trivial
  go_wp2_with (first
    | (at_builtin
       have _t := tokA
       refine wpList_appS (W := w17) rfl _ _ 22 rfl 5 i0 Tryd.underlying22 hi hz0 hz1 hz2 _ [] rfl _ a rfl hsa hstart hbstart (by simp; omega) ?_
       intro v18 w18 hown18 hb18
       clear tokA)
    | (at_builtin
       refine wpList_app1 (W := w17) rfl _ _ 22 rfl 5 i0 Tryd.underlying22 hi hz0 hz1 hz2 _ ([] ++ a) (by rfl) _ 1 (Lib.hid rfl) rfl hown18 hb18 (by simp; omega) ?_
       intro v19 w19 hown19 hb19))
  replace H := H.more hown19 hb19
  refine (implGetBits_any _ ([] ++ a ++ [1]) 0 n _ (H.sp (.head _)) (by simp; omega) (by omega) (hg.up H.bel)).mono ?_
  rw [Hgb.out]
  rintro e w20 ⟨ug, rfl, ho, hb⟩
  replace H := H.more ho hb
  clear ho hb
  generalize hsz : sizeB n = Z at *
  have hzz : (Z == Z) = true := by simp
  go_wp2_with fail
  refine (implBitsHas_any _ y i _ (H.sl (by simp)) (by omega) (by omega)).mono ?_
  rw [HH.out.1]
  rintro e _ ⟨rfl, d1, rfl⟩
  replace H := H.drewN d1
  generalize w20.drewN d1 = w21 at *
  go_wp2_with fail
  refine (implBitsHas_any _ z i _ (H.sl (by simp)) (by omega) (by omega)).mono ?_
  rw [HH.out.2.1]
  rintro e _ ⟨rfl, d2, rfl⟩
  replace H := H.drewN d2
  go_wp2_with fail
  refine (implBitsIn_any _ _ z a _ (H.sl (by simp)) (H.sl (by simp)) (by omega) (by omega)).mono ?_
  rw [HH.out.2.2]
  rintro e w23 ⟨rfl, hb⟩
  replace H := H.up hb
  clear hb
  go_wp2_with fail
  refine (implBitsSize_any n _ (by omega)).mono ?_
  rw [hsz]
  rintro e w24 ⟨rfl, rfl⟩
  go_wp2_with fail
  refine (implSameBytes_any _ _ a a _ (H.sl (by simp)) (H.sl (by simp))).mono ?_
  rw [haa]
  rintro e w24 ⟨rfl, rfl⟩
  go_wp2_with fail
  refine (implBitsNew_any n _).mono ?_
  rintro e w25 ⟨un, rfl, ho, hb⟩
  replace H := H.more ho hb
  clear ho hb
  go_wp2_with fail
  refine (implBitsCount_any _ (newL n) _ (H.sl (.head _)) (by have := newL_len n; omega)).mono ?_
  rw [cnt_new]
  rintro e w26 ⟨rfl, hb⟩
  replace H := H.up hb
  clear hb
  go_wp2
  go_ret
  exact ⟨rfl, H.bel⟩
end Go.Proofs.YtoaokhhpgoabmaaDoor
