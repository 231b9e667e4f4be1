/- The walk of the law FnNum: for every argument the law answers true and leaves all memory that was there as it was. -/
import Derived.Test.YtahfklghnbpadaaDoorCur
import Derived.Test.YtahfklghnbpadaaDoorRound
namespace Go.Proofs.YtahfklghnbpadaaDoor
open Go.ChangeShapes Go.WideShapes Go.ChangeAt Go.RowKit

theorem num_facts (x : Int) (h0 : 0 ≤ x) (h1 : x < 4000000) : ∃ L F : List UInt8, (L.length ≤ 10 ∧ F.length ≤ 3) ∧ Hid (putVarL [9] x = L ∧ isNumB x = true ∧ getV L 1 = (x, (L.length : Int), 0) ∧ (sizeV x : Int) = (L.length : Int) - 1) ∧
    Hid (putFixL [] x 3 = F ∧ fixB x 3 = true ∧ getF F 0 3 = (x, 3, 0)) ∧ Hid (tnN (ba (numL x)).data.toList = x ∧ tnB (ba (numL x)).data.toList = true ∧ (ba (numL x)).size ≤ 4294967296) := by
  obtain ⟨n, rfl⟩ := Int.eq_ofNat_of_zero_le h0
  have hv := getV_varL [9] [] n (by omega)
  have h9 := varL_nine n (by omega)
  have h2 : (2 : Int) ^ (8 * (3 : Int)).toNat = 16777216 := by decide
  have hok : fixOk (n : Int) 3 := ⟨by omega, by omega, by omega, by rw [h2]; omega⟩
  refine ⟨[9] ++ varL n, fixL n 3, ⟨by simp; omega, by rw [fixL_length]; omega⟩, Lib.hid ⟨?_, isNumB_yes (by omega) (by omega), ?_, ?_⟩, Lib.hid ⟨?_, fixB_yes hok, getF_fixL n (by omega)⟩, Lib.hid ⟨(tn_num n (by omega)).1, (tn_num n (by omega)).2, ?_⟩⟩
  · rw [putVarL, if_pos ⟨by omega, by omega⟩]; rfl
  · rw [List.append_nil] at hv
    refine hv.trans ?_
    simp
    omega
  · unfold sizeV
    rw [putVarL, if_pos ⟨by omega, by omega⟩]
    simp
  · rw [putFixL_yes _ hok]; rfl
  · have e : (ba (numL (n : Int))).size = (numL (n : Int)).length := by simp [ba, ByteArray.size]
    rw [e, numL_yes (by omega)]
    have := dec_len 18 n (by omega)
    omega

theorem slice_of {w : World} {B : Nat} {v : Value} {l : List UInt8} (h : Sl w B v l) : ∃ A c, v = .slice A l.length c := by
  obtain ⟨A, c, rfl, _⟩ := h
  exact ⟨A, c, rfl⟩

set_option maxRecDepth 100000 in
set_option maxHeartbeats 4000000 in
theorem FnNum_walk (v0 : Value) (l0 : List UInt8) (W : World) (h0 : Sl W W.heap.size v0 l0) (hg : ErrT W) (hv : ErrVars W) (hT : Tab10 W) :
    Calls Tryd.prog 3 #[v0] W (Yes W) := by
  have hs0 := h0
  obtain ⟨A0, c0, rfl, p0, q0, r0, z0⟩ := h0
  unfold maxLen at q0
  clear r0 z0
  by_cases hbig0 : 1048576 < l0.length
  · have hb : (1048576 : Int) < (l0.length : Int) := by omega
    go_enter Tryd.func3, Tryd.ntmps3
    go_wp2
    go_ret
    exact ⟨rfl, Below.refl _ _⟩
  have hb0 : ¬ ((1048576 : Int) < (l0.length : Int)) := by omega
  have H : Inv 5 W W [] := Inv.start W
  go_enter Tryd.func3, Tryd.ntmps3
  go_wp2_with fail
  refine (MakeNum_any _ l0 4000000 _ (H.old hs0) (by omega) (by omega) (by omega)).mono ?_
  rintro e w1 ⟨x, rfl, hx0, hx1, hb⟩
  replace H := H.up hb
  clear hb
  obtain ⟨L, F, ⟨hLl, hFl⟩, HL, HF, HN⟩ := num_facts x hx0 hx1
  have h24 : x < 16777216 := by omega
  have hxx : (x != x) = false := by simp
  have hLL : ((L.length : Int) != (L.length : Int)) = false := by simp
  have hLL1 : ((L.length : Int) - 1 != (L.length : Int) - 1) = false := by simp
  go_wp2_with fail
  have hown9 : Own 5 (w1.alloc (.cells #[.int .u8 9] 5)) w1.heap.size (.slice (some ⟨w1.heap.size, 0, none⟩) 1 1) [9] :=
    World.ownsRow_lit w1 #[.int .u8 9] 1 (Nat.le_refl _) (by simp [maxLen]) rfl
  replace H := H.more hown9 ((Below.refl _ _).alloc (Nat.le_refl _) _)
  clear hown9
  refine (implPutVar_any _ [9] x _ (H.sl (.head _)) (by simp)).mono ?_
  rw [HL.out.1, HL.out.2.1]
  rintro e w2 ⟨u2, rfl, ho, hb⟩
  replace H := H.more ho hb
  clear ho hb
  replace H := H.sub (qs := [(u2, L)]) (by simp)
  obtain ⟨A2, c2, rfl⟩ := slice_of (H.sl (.head _))
  go_wp2_with fail
  refine (implGetVar_any _ L 1 _ (H.sp (.head _)) (by omega) (hg.up H.bel)).mono ?_
  rw [HL.out.2.2.1]
  rintro e w3 ⟨rfl, hb⟩
  replace H := H.up hb
  clear hb
  go_wp2_with fail
  refine (implPutFix_any _ [] x 3 _ Sl.nil_ (by simp)).mono ?_
  rw [HF.out.1, HF.out.2.1]
  rintro e w4 ⟨u4, rfl, ho, hb⟩
  replace H := H.more ho hb
  clear ho hb
  go_wp2_with fail
  refine (implGetFix_any _ F 0 3 _ (H.sp (.head _)) (by omega) (by omega) (hg.up H.bel)).mono ?_
  rw [HF.out.2.2]
  rintro e w5 ⟨rfl, hb⟩
  replace H := H.up hb
  clear hb
  go_wp2_with fail
  refine (implNumText_any x _ (hT.up H.bel)).mono ?_
  rintro e w6 ⟨rfl, hb⟩
  replace H := H.up hb
  clear hb
  go_wp2_with fail
  refine (implTextNum_any (ba (numL x)) _ HN.out.2.2 (hv.up H.bel) (hT.up H.bel)).mono ?_
  rw [HN.out.1, HN.out.2.1]
  rintro e w7 ⟨rfl, hb⟩
  replace H := H.up hb
  clear hb
  go_wp2_with fail
  refine (implVarSize_any x _).mono ?_
  rw [HL.out.2.2.2]
  rintro e w8 ⟨rfl, rfl⟩
  go_wp2_with fail
  replace H := H.sub (qs := []) (by simp)
  refine (MakeBytes_any _ l0 9 _ (H.old hs0) (by omega) (by omega) (by omega)).mono ?_
  rintro e w9 ⟨u9, t, rfl, ht, ho, hb⟩
  replace H := H.more ho hb
  clear ho hb
  obtain ⟨A9, c9, rfl⟩ := slice_of (H.sl (.head _))
  have htx := Lib.hid (tx_put t (by omega))
  have hpl := putTextL_len [] t (by omega)
  have hpl' : (putTextL [] t).length ≤ 100 := by simp at hpl; omega
  have htt : (t == t) = true := by simp
  have ht1 : ((t.length : Int) + 1 == (t.length : Int) + 1) = true := by simp
  clear hpl
  go_wp2_with fail
  refine (implPutText_any _ _ [] t _ Sl.nil_ (H.sl (.head _)) (by simp) (by omega)).mono ?_
  rintro e w10 ⟨u10, rfl, ho, hb⟩
  replace H := H.more ho hb
  clear ho hb
  go_wp2_with fail
  refine (implGetText_any _ (putTextL [] t) 0 9 _ (H.sp (.head _)) (by omega) (hg.up H.bel)).mono ?_
  rw [htx.out.1, htx.out.2.1, htx.out.2.2]
  rintro e w11 ⟨u11, rfl, ho, hb⟩
  replace H := H.more ho hb
  clear ho hb
  go_wp2_with fail
  refine (implHexText_any _ t _ (H.sl (by simp)) (by omega)).mono ?_
  rintro e w12 ⟨rfl, hb⟩
  replace H := H.up hb
  clear hb
  go_wp2_with fail
  refine (implTextHex_any (ba (hexL t)) _ (by have := hexL_len t; have e : (ba (hexL t)).size = (hexL t).length := by simp [ba, ByteArray.size]
                                              omega)).mono ?_
  rw [(unhex_hex t).1, (unhex_hex t).2]
  rintro e w13 ⟨u13, rfl, ho, hb⟩
  replace H := H.more ho hb
  clear ho hb
  go_wp2_with fail
  refine (implSameBytes_any _ _ t t _ (H.sl (by simp)) (H.sl (by simp))).mono ?_
  rw [htt]
  rintro e w14 ⟨rfl, rfl⟩
  go_wp2_with fail
  refine (implSameBytes_any _ _ t t _ (H.sl (by simp)) (H.sl (by simp))).mono ?_
  rw [htt]
  rintro e w15 ⟨rfl, rfl⟩
  go_wp2
  go_ret
  exact ⟨rfl, H.bel⟩
end Go.Proofs.YtahfklghnbpadaaDoor
