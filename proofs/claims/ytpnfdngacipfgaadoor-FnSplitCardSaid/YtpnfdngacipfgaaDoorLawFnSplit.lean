/- The walk of the law FnSplit: for every argument the law answers true and leaves all memory that was there as it was. -/
import Derived.Test.YtpnfdngacipfgaaDoorMakeList
import Derived.Test.YtpnfdngacipfgaaDoorTree
import Derived.Test.YtpnfdngacipfgaaDoorTreeSame
namespace Go.Proofs.YtpnfdngacipfgaaDoor
open Go.ChangeShapes Go.WideShapes Go.ChangeAt Go.RowKit

theorem split_few : ∀ n, n < 10 → 2 ≤ n → splitN n = 1 ∨ splitN n = 2 ∨ splitN n = 4 ∨ splitN n = 8 := by decide
theorem and_below {s : Nat} (h : s = 1 ∨ s = 2 ∨ s = 4 ∨ s = 8) : bits .and .i64 (s : Int) ((s - 1 : Nat) : Int) = 0 := by
  rcases h with rfl | rfl | rfl | rfl <;> rfl

set_option maxRecDepth 100000 in
set_option maxHeartbeats 8000000 in
theorem FnSplit_walk (v0 : Value) (l0 : List UInt8) (W : World) (h0 : Sl W W.heap.size v0 l0)
    (hgI : Glob W 0 initW) (hg : Glob W 1 kk) :
    Calls Tryd.prog 3 #[v0] W (Yes W) := by
  obtain ⟨i0, hi, hz0, hz1, hz2⟩ := info_parts sbinfo
  have hs0 := h0
  obtain ⟨A0, c0, rfl, p0, q0, r0, z0⟩ := h0
  unfold maxLen at q0
  clear r0 z0
  by_cases hbig0 : 1048576 < l0.length
  · have hb : (1048576 : Int) < (l0.length : Int) := by omega
    go_enter Tryd.func3, Tryd.ntmps3
    go_wp2
    go_ret
    exact ⟨rfl, Below.refl _ _⟩
  have hb0 : ¬ ((1048576 : Int) < (l0.length : Int)) := by omega
  go_enter Tryd.func3, Tryd.ntmps3
  go_wp2_with fail
  refine (MakeList_any _ l0 _ hs0 (by omega)).mono ?_
  rintro e w1 ⟨L, u, vs, rfl, hvl, hL0, hL9, hLs, K⟩
  have hb1 := K.bel
  have hS : SlS w1 w1.heap.size u L := ((InvF.start W).more K).slS 22 5 hvl (.head _)
  have hI1 := hgI.below hgI.lt hb1
  have hG1 := hg.below hg.lt hb1
  clear hvl K p0 q0 hb0 hs0
  have HS := Lib.hid hS
  obtain ⟨A, c, rfl, h1, h2, k0, h3⟩ := hS
  unfold maxLen at h2
  obtain ⟨b, off, rfl, hbb, hcell⟩ := h3 hL0
  clear k0 h3
  have hA := implSplitAt_any (L.length : Int) w1 (by omega)
  rw [splitZ_nat] at hA
  by_cases hn1 : L.length = 1
  · have hsp : splitN L.length = 0 := splitN_small (by omega)
    rw [hsp] at hA
    have HA := Lib.hid hA
    obtain ⟨x, hc0, hx⟩ := hcell 0 hL0
    rw [Nat.add_zero] at hc0
    have htr := treeL_one hn1
    have hx9 := sumL_one L 0 hL0
    generalize L.getD 0 [] = y at hx htr hx9
    have HR := Lib.hid htr
    have hRR : (leafL y == leafL y) = true := by simp
    have hn1' : ((L.length : Int) == 1) = true := by simp [hn1]
    have hl0 : (0 : Int) < (L.length : Int) := by omega
    have HD : Hid (SlS w1.drew w1.drew.heap.size (.slice (some ⟨b, off, none⟩) L.length c) L ∧ Glob w1.drew 0 initW ∧ Glob w1.drew 1 kk ∧ Sl w1.drew w1.drew.heap.size x y) := Lib.hid ⟨HS.out, hI1, hG1, hx⟩
    have HL : Hid (sumL L ≤ 1073741000 ∧ L.length ≤ 1073741824 ∧ y.length ≤ 1073741000) := Lib.hid ⟨by omega, by omega, by omega⟩
    have HC : Hid (w1.cell? ⟨b, off, none⟩ = some x) := Lib.hid hc0
    clear hA hsp hcell hx htr hx9 hn1
    go_wp2_with (go_at_call 8; refine HA.out.mono ?_; rintro e w' ⟨rfl, hw⟩; obtain rfl : w1 = w' := hw.symm)
    go_region_held3 (fun w' => w'.cell? ⟨b, off, none⟩ = some x)
      (first
        | go_keep
        | exact (hb2.cell (p := ⟨b, off, none⟩) hbb).trans HC.out
        | exact (hb3'.cell (p := ⟨b, off, none⟩) hbb).trans HC.out)
      (first
        | (go_at_call 10; refine (implTreeRoot_any _ L w1.drew HD.out.1 HL.out.1 HL.out.2.1 HD.out.2.1 HD.out.2.2.1).mono ?_; rintro e w2 ⟨v2, rfl, hown2, hb2⟩)
        | (go_at_call 11; refine (implLeafHash_any x y w2 (HD.out.2.2.2.up hb2) HL.out.2.2 (HD.out.2.1.up hb2) (HD.out.2.2.1.up hb2)).mono ?_; rintro e w3 ⟨v3, rfl, hown3, hb3⟩; have hb3' := hb2.trans (hb3.mono hb2.size))
        | (go_at_call 9; refine (implSameBytes_any v2 v3 (treeL L) (leafL y) w3 (hown2.sl.up hb3) hown3.sl).mono ?_; rw [HR.out, hRR]; rintro e w' ⟨rfl, hw⟩; obtain rfl : w3 = w' := hw))
    go_wp2
    go_ret
    have hbd : Below w1.heap.size w1 w1.drew := below_drewN (Below.refl _ _) 1
    exact ⟨rfl, hb1.trans ((hbd.trans hb3').mono hb1.size)⟩
  · have hn2 : 2 ≤ L.length := by omega
    have hsf := split_few L.length (by omega) hn2
    have hlt := splitN_lt hn2
    have hps := splitN_pos hn2
    have hhf := splitN_half hn2
    have htr := treeL_two hn2
    generalize splitN L.length = s at hA hsf hlt hps hhf htr
    have HA := Lib.hid hA
    have hand := and_below hsf
    have hne : ((L.length : Int) == 1) = false := by rw [beq_eq_false_iff_ne]; omega
    have hw1 : IntKind.i64.wrap ((s : Int) - 1) = ((s - 1 : Nat) : Int) := by rw [IntKind.wrap_i64]; omega
    have hw2 : IntKind.i64.wrap (2 * (s : Int)) = ((2 * s : Nat) : Int) := by rw [IntKind.wrap_i64]; omega
    have hge : (L.length : Int) ≤ ((2 * s : Nat) : Int) := by omega
    generalize s - 1 = s1 at hand hw1
    generalize 2 * s = s2 at hw2 hge
    have hlt' : (s : Int) < (L.length : Int) := by omega
    have ht1 : SlS w1 w1.heap.size (.slice (some ⟨b, off, none⟩) s c) (L.take s) := by
      have := slS_cut (L := L) (off := off) (c := c) 0 s h2 hbb hcell (by omega) off c (by omega) (by omega) (Nat.le_refl _)
      simpa using this
    have ht2 : SlS w1 w1.heap.size (.slice (some ⟨b, off + s, none⟩) (L.length - s) (c - s)) (L.drop s) := by
      have := slS_cut (L := L) (off := off) (c := c) s (L.length - s) h2 hbb hcell (by omega) (off + s) (c - s) (by omega) (by omega) (by omega)
      rwa [List.take_of_length_le (by rw [List.length_drop]; omega)] at this
    have hs1 : Hid ((L.take s).length ≤ 1073741824 ∧ sumL (L.take s) ≤ 1073741000) := Lib.hid (by
      have := sumL_le L s
      rw [List.length_take]
      exact ⟨by omega, by omega⟩)
    have hs2 : Hid ((L.drop s).length ≤ 1073741824 ∧ sumL (L.drop s) ≤ 1073741000) := Lib.hid (by
      have h1 := sumL_app (L.take s) (L.drop s)
      rw [List.take_append_drop] at h1
      rw [List.length_drop]
      exact ⟨by omega, by omega⟩)
    have hl1 := treeL_length (L.take s)
    have hl2 := treeL_length (L.drop s)
    have HT1 := Lib.hid ht1
    have HT2 := Lib.hid ht2
    clear hcell ht1 ht2 hA hsf hhf
    generalize L.take s = L1 at hl1 hs1 HT1 htr
    generalize L.drop s = L2 at hl2 hs2 HT2 htr
    have HT1L : Hid (treeL L = nodeL (treeL L1) (treeL L2)) := Lib.hid htr
    clear htr
    have HL1 : Hid ((treeL L1).length ≤ 536870000) := Lib.hid (by omega)
    have HL2 : Hid ((treeL L2).length ≤ 536870000) := Lib.hid (by omega)
    have HL : Hid (sumL L ≤ 1073741000 ∧ L.length ≤ 1073741824) := Lib.hid ⟨by omega, by omega⟩
    have hRR : (nodeL (treeL L1) (treeL L2) == nodeL (treeL L1) (treeL L2)) = true := by simp
    have hLL : (L == L) = true := by simp
    have HRR := Lib.hid hRR
    have HLL := Lib.hid hLL
    have hi1 : (0 : Int) ≤ (s : Int) := by omega
    have hi3 : (s : Int) ≤ (c : Int) := by omega
    have hi4 : s ≤ L.length := by omega
    have hi5 : s ≤ c := by omega
    have hi2 : (s : Int) ≤ (L.length : Int) := by omega
    have HD : Hid (SlS w1.drew w1.drew.heap.size (.slice (some ⟨b, off, none⟩) L.length c) L ∧ Glob w1.drew 0 initW ∧ Glob w1.drew 1 kk) := Lib.hid ⟨HS.out, hI1, hG1⟩
    have HD1 : Hid (SlS w1.drew w1.drew.heap.size (.slice (some ⟨b, off, none⟩) s c) L1) := Lib.hid HT1.out
    have HD2 : Hid (SlS w1.drew w1.drew.heap.size (.slice (some ⟨b, off + s, none⟩) (L.length - s) (c - s)) L2) := Lib.hid HT2.out
    clear hl1 hl2 hRR hLL
    go_wp2_with (go_at_call 8; refine HA.out.mono ?_; rintro e w' ⟨rfl, hw⟩; obtain rfl : w1 = w' := hw.symm)
    go_region_held3 (fun _ => True)
      (trivial)
      (first
        | (go_at_call_of 10 (Value.slice (some ⟨b, off, none⟩) L.length c); refine (implTreeRoot_any _ L w1.drew HD.out.1 HL.out.1 HL.out.2 HD.out.2.1 HD.out.2.2).mono ?_; rintro e w2 ⟨v2, rfl, hown2, hb2⟩)
        | (go_at_call_of 10 (Value.slice (some ⟨b, off, none⟩) s c); refine (implTreeRoot_any _ L1 w2 (HD1.out.up hb2) hs1.out.2 hs1.out.1 (HD.out.2.1.up hb2) (HD.out.2.2.up hb2)).mono ?_; rintro e w3 ⟨v3, rfl, hown3, hb3⟩; have hb3' := hb2.trans (hb3.mono hb2.size))
        | (go_at_call_of 10 (Value.slice (some ⟨b, off + s, none⟩) (L.length - s) (c - s)); refine (implTreeRoot_any _ L2 w3 (HD2.out.up hb3') hs2.out.2 hs2.out.1 (HD.out.2.1.up hb3') (HD.out.2.2.up hb3')).mono ?_; rintro e w4 ⟨v4, rfl, hown4, hb4⟩; have hb4' := hb3'.trans (hb4.mono hb3'.size))
        | (go_at_call 12; refine (implNodeHash_any v3 v4 (treeL L1) (treeL L2) w4 (hown3.sl.up hb4) hown4.sl HL1.out HL2.out (HD.out.2.1.up hb4') (HD.out.2.2.up hb4')).mono ?_; rintro e w5 ⟨v5, rfl, hown5, hb5⟩; have hb5' := hb4'.trans (hb5.mono hb4'.size))
        | (go_at_call 9; refine (implSameBytes_any v2 v5 (treeL L) (nodeL (treeL L1) (treeL L2)) w5 (((hown2.sl.up hb3).up hb4).up hb5) hown5.sl).mono ?_; rw [HT1L.out, HRR.out]; rintro e w' ⟨rfl, hw⟩; obtain rfl : w5 = w' := hw)
        | (refine step_appSS (W := w5) (by rfl) (.tmp 60) (.tmp 61) 23 rfl 22 i0 Tryd.underlying23 hi hz0 hz1 hz2 _ (by rfl) _ L (by rfl) (HD.out.1.up hb5') (World.ownsRow_lit w5 #[] 0 (Nat.le_refl _) (by simp [maxLen]) rfl) ((Below.refl _ _).alloc (Nat.le_refl _) _) hL0 (by omega) ?_; intro v6 w6 hs6 hb6)
        | (go_at_call 13; refine (implTreeSame_any _ _ L L w6 ((HD.out.1.up hb5').up hb6) hs6).mono ?_; rw [HLL.out]; rintro e _ ⟨rfl, d7, rfl⟩))
    go_wp2
    go_ret
    have hbd : Below w1.heap.size w1 w1.drew := below_drewN (Below.refl _ _) 1
    have hb15 := hbd.trans hb5'
    exact ⟨rfl, below_drewN ((hb1.trans (hb15.mono hb1.size)).trans (hb6.mono (Nat.le_trans hb1.size hb15.size))) d7⟩
end Go.Proofs.YtpnfdngacipfgaaDoor
