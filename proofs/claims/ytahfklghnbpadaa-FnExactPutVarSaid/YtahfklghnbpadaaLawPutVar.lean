/- The walk of the exact law of PutVar: for every slice of bytes and every number the law answers true and leaves all memory that was there as it was. -/
import Derived.Test.YtahfklghnbpadaaPut
namespace Go.Proofs.Ytahfklghnbpadaa
open Go.ChangeShapes Go.WideShapes Go.ChangeAt Go.RowKit

set_option maxHeartbeats 1000000 in
theorem PutVar_walk (v : Value) (l : List UInt8) (n : Int) (W : World) (h : Sl W W.heap.size v l) :
    Calls Try.prog 3 #[v, .int .i64 n] W (Yes W) := by
  have hs := h
  obtain ⟨A, c, rfl, h1, h2, h0, h3⟩ := h
  unfold maxLen at h2
  clear h0 h3
  by_cases hbig : 1048576 < l.length
  · have hb : (1048576 : Int) < (l.length : Int) := by omega
    go_enter Try.func3, Try.ntmps3
    go_wp2
    go_ret
    exact ⟨rfl, Below.refl _ _⟩
  · have hb : ¬ ((1048576 : Int) < (l.length : Int)) := by omega
    have hp := putVarL_len l n
    obtain ⟨L, hL⟩ : ∃ L, L = putVarL l n := ⟨_, rfl⟩
    rw [← hL] at hp
    have HL := Lib.hid hL
    clear hL
    obtain ⟨b, hB⟩ : ∃ b, b = isNumB n := ⟨_, rfl⟩
    have HB := Lib.hid hB
    clear hB
    have hbb : (b != b) = false := by simp
    have H : Inv 5 W W [] := Inv.start W
    go_enter Try.func3, Try.ntmps3
    go_wp2_with fail
    refine (toByteS_any _ l _ (H.old hs) (by omega)).mono ?_
    rintro e w1 ⟨u1, rfl, ho, hb⟩
    have H1 := H.more ho hb
    clear ho hb H
    go_wp2_with fail
    refine (specPutVar_any _ l n _ (H1.sl (.head _)) (by omega)).mono ?_
    rw [← HL.out, ← HB.out]
    rintro e w2 ⟨u2, rfl, ho, hb⟩
    have H2 := (H1.more ho hb).sub (qs := [(u2, L)]) (by simp)
    clear ho hb H1
    go_wp2_with fail
    refine (toByteS_any _ l _ (H2.old hs) (by omega)).mono ?_
    rintro e w3 ⟨x0, rfl, ho, hb⟩
    have H3 := H2.more ho hb
    clear ho hb H2
    go_wp2_with fail
    refine (implPutVar_any _ l n _ (H3.sl (.head _)) (by omega)).mono ?_
    rw [← HL.out, ← HB.out]
    rintro e w4 ⟨g0, rfl, ho, hb⟩
    have H4 := H3.more ho hb
    clear ho hb H3
    go_wp2_with fail
    refine (eqByteS_any _ _ L _ (H4.sl (by simp)) (H4.sl (by simp))).mono ?_
    rintro e _ ⟨rfl, k4, rfl⟩
    have H5 := H4.drewN k4
    clear H4
    go_wp2_with fail
    refine (toByteS_any _ l _ (H5.old hs) (by omega)).mono ?_
    rintro e w6 ⟨y0, rfl, ho, hb⟩
    have H6 := H5.more ho hb
    clear ho hb H5
    go_wp2_with fail
    refine (eqByteS_any _ _ l _ (H6.sl (by simp)) (H6.sl (by simp))).mono ?_
    rintro e _ ⟨rfl, k6, rfl⟩
    have H7 := (H6.drewN k6).sub (qs := [(g0, L), (x0, l), (u2, L)]) (by simp)
    clear H6
    go_wp2_with fail
    refine (markByteS_z _ l 1 _ _ _ (H7.own (by simp)) rfl (by omega) (by omega)).mono ?_
    rintro e w8 ⟨rfl, ho, hg⟩
    have H8 := H7.wroteAt 1 rfl ho hg
    simp only [List.set_cons_succ, List.set_cons_zero] at H8
    clear ho hg H7
    go_wp2_with fail
    refine (eqByteS_any _ _ L _ (H8.sl (by simp)) (H8.sl (by simp))).mono ?_
    rintro e _ ⟨rfl, k8, rfl⟩
    have H9 := (H8.drewN k8).sub (qs := [(g0, L), (u2, L)]) (by simp)
    clear H8
    go_wp2_with fail
    refine (markByteS_z _ L 1 _ _ _ (H9.own (by simp)) rfl (by omega) (by omega)).mono ?_
    rintro e w10 ⟨rfl, ho, hg⟩
    have H10 := H9.wroteAt 0 rfl ho hg
    simp only [List.set_cons_zero] at H10
    clear ho hg H9
    go_wp2_with fail
    refine (heldByteS_z _ 1 L.length _ _ (H10.sl (by simp)) rfl (by omega) (by omega)).mono ?_
    rintro e _ ⟨rfl, k10, rfl⟩
    have H11 := H10.drewN k10
    clear H10
    have hlt : ¬ ((1 : Int) + (L.length : Int) < 0) := by omega
    have hne : ((1 : Int) + (L.length : Int) != 1 + (L.length : Int)) = false := by simp
    go_wp2_with fail
    refine (toByteS_any _ l _ (H11.old hs) (by omega)).mono ?_
    rintro e w12 ⟨u12, rfl, ho, hb⟩
    have H12 := H11.more ho hb
    clear ho hb H11
    go_wp2_with fail
    refine (implPutVar_any _ l n _ (H12.sl (.head _)) (by omega)).mono ?_
    rw [← HL.out, ← HB.out]
    rintro e w13 ⟨h0, rfl, ho, hb⟩
    have H13 := H12.more ho hb
    clear ho hb H12
    go_wp2_with fail
    refine (eqByteS_any _ _ L _ (H13.sl (by simp)) (H13.sl (by simp))).mono ?_
    rintro e _ ⟨rfl, k13, rfl⟩
    have H14 := H13.drewN k13
    clear H13
    go_wp2_with fail
    refine (heldByteS_z _ 1 L.length _ _ (H14.sl (by simp)) rfl (by omega) (by omega)).mono ?_
    rintro e _ ⟨rfl, k14, rfl⟩
    have H15 := H14.drewN k14
    clear H14
    go_wp2_with fail
    go_ret
    exact ⟨rfl, by have hfin := H15.bel; simpa using hfin⟩
end Go.Proofs.Ytahfklghnbpadaa
