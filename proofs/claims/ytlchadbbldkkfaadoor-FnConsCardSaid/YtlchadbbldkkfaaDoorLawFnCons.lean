/- The walk of the law FnCons: for every argument the law answers true and leaves all memory that was there as it was. -/
import Derived.Test.YtlchadbbldkkfaaDoorMakeList
import Derived.Test.YtlchadbbldkkfaaDoorConsOf
import Derived.Test.YtlchadbbldkkfaaDoorConsOk
namespace Go.Proofs.YtlchadbbldkkfaaDoor
open Go.ChangeShapes Go.WideShapes Go.ChangeAt Go.RowKit

section
variable {L : List (List UInt8)} {k : Nat}
theorem ofC_cons (h0 : 1 ≤ k) (h : k ≤ L.length) : ofC L (k : Int) = consL L k true := by
  unfold ofC
  rw [prefB_yes (by omega), if_pos rfl]
  rfl
theorem clenZ_cons (h0 : 1 ≤ k) (h : k ≤ L.length) (hL : L.length ≤ 1048576) : clenZ (k : Int) (L.length : Int) = ((consL L k true).length : Int) := by
  unfold clenZ
  rw [if_pos (consB_yes (by omega)), consL_length]
  rfl
theorem rootsB_cons (h0 : 1 ≤ k) (h : k ≤ L.length) (hL : L.length ≤ 1048576) : rootsB (k : Int) (L.length : Int) (treeL (L.take k)) (consL L k true) = true :=
  rootsB_yes ⟨consB_yes (by omega), treeL_length _, (clenZ_cons h0 h hL).symm, all32_of (consL_32 L k true)⟩
theorem roots_cons (h0 : 1 ≤ k) (h : k ≤ L.length) (hL : L.length ≤ 1048576) : rootsO (k : Int) (L.length : Int) (treeL (L.take k)) (consL L k true) = treeL (L.take k) ∧ rootsN (k : Int) (L.length : Int) (treeL (L.take k)) (consL L k true) = treeL L := by
  unfold rootsO rootsN
  rw [rootsB_cons h0 h hL, if_pos rfl, if_pos rfl]
  have := croot_cons L.length L k true (treeL (L.take k)) (Nat.le_refl _) h0 h (fun _ => rfl)
  simp only [Int.toNat_natCast]
  rw [this]
  exact ⟨rfl, rfl⟩
theorem consOkB_cons (h0 : 1 ≤ k) (h : k ≤ L.length) (hL : L.length ≤ 1048576) : consOkB (k : Int) (L.length : Int) (treeL (L.take k)) (treeL L) (consL L k true) = true := by
  unfold consOkB
  rw [rootsB_cons h0 h hL, (roots_cons h0 h hL).1, (roots_cons h0 h hL).2]
  simp
end

set_option maxRecDepth 100000 in
set_option maxHeartbeats 8000000 in
theorem FnCons_walk (v0 : Value) (l0 : List UInt8) (W : World) (h0 : Sl W W.heap.size v0 l0)
    (hgI : Glob W 0 initW) (hg : Glob W 1 kk) :
    Calls Tryd.prog 4 #[v0] W (Yes W) := by
  have hs0 := h0
  obtain ⟨A0, c0, rfl, p0, q0, r0, z0⟩ := h0
  unfold maxLen at q0
  clear r0 z0
  by_cases hbig0 : 1048576 < l0.length
  · have hb : (1048576 : Int) < (l0.length : Int) := by omega
    go_enter Tryd.func4, Tryd.ntmps4
    go_wp2
    go_ret
    exact ⟨rfl, Below.refl _ _⟩
  have hb0 : ¬ ((1048576 : Int) < (l0.length : Int)) := by omega
  go_enter Tryd.func4, Tryd.ntmps4
  go_wp2_with fail
  refine (MakeList_any _ l0 _ hs0 (by omega)).mono ?_
  rintro e w1 ⟨L, u, vs, rfl, hvl, hL0, hL9, hLs, K⟩
  have hb1 := K.bel
  have hS : SlS w1 w1.heap.size u L := ((InvF.start W).more K).slS 22 5 hvl (.head _)
  have hI1 := hgI.below hgI.lt hb1
  have hG1 := hg.below hg.lt hb1
  clear hvl K p0 q0 hb0 hs0 hgI hg
  have HS := Lib.hid hS
  have HG := Lib.hid (And.intro hI1 hG1)
  have HLS : Hid (sumL L ≤ 1073741000 ∧ L.length ≤ 1048576 ∧ L.length ≤ 1073741824) := Lib.hid ⟨by omega, by omega, by omega⟩
  have HB1 := Lib.hid hb1
  obtain ⟨A, c, rfl, h1, h2, k0, h3⟩ := hS
  have h2m := h2
  unfold maxLen at h2
  obtain ⟨b, off, rfl, hbb, hcell⟩ := h3 hL0
  have HCUT : Hid (∀ k, k ≤ L.length → SlS w1 w1.heap.size (.slice (some ⟨b, off, none⟩) k c) (L.take k)) := Lib.hid fun k hk => by
    have := slS_cut (L := L) (off := off) (c := c) 0 k h2m hbb hcell (by omega) off c (by omega) (by omega) (Nat.le_refl _)
    simpa using this
  clear k0 h3 hI1 hG1 hLs hb1 hcell
  go_wp2_with fail
  refine (implTreeRoot_any _ L w1 HS.out HLS.out.1 HLS.out.2.2 HG.out.1 HG.out.2).mono ?_
  rintro e w2 ⟨v4, rfl, ho4, hb2⟩
  have HUP : Hid (∀ w, Below w2.heap.size w2 w → SlS w w.heap.size (.slice (some ⟨b, off, none⟩) L.length c) L ∧ Sl w w.heap.size v4 (treeL L) ∧ Glob w 0 initW ∧ Glob w 1 kk ∧ Below W.heap.size W w ∧
      ∀ k, k ≤ L.length → SlS w w.heap.size (.slice (some ⟨b, off, none⟩) k c) (L.take k)) := Lib.hid fun w hb => by
    have h12 := hb2.trans (hb.mono hb2.size)
    exact ⟨HS.out.up h12, ho4.sl.up hb, HG.out.1.up h12, HG.out.2.up h12, HB1.out.trans (h12.mono HB1.out.size), fun k hk => (HCUT.out k hk).up h12⟩
  clear HS HG HB1 HCUT ho4 hb2
  go_wp2
  go_loopw [5] (fun i wr => ∃ k : Nat, 1 ≤ k ∧ k ≤ L.length + 1 ∧ i = .int .i64 k ∧ Below w2.heap.size w2 wr)
    (fun i _ => L.length + 1 - (intOf i).toNat)
  case atStart => exact ⟨1, Nat.le_refl _, by omega, rfl, Below.refl _ _⟩
  case round =>
    obtain ⟨k, hk1, hk, rfl, hbr⟩ := hrel
    by_cases hlt : k ≤ L.length
    · have hklt : (k : Int) ≤ (L.length : Int) := by omega
      have hk0 : (0 : Int) ≤ (k : Int) := by omega
      have hkc : (k : Int) ≤ (c : Int) := by omega
      have hkc2 : k ≤ c := by omega
      have hsum := sumL_le L k
      have htl : (L.take k).length = k := by rw [List.length_take]; omega
      have HPO := Lib.hid (fun v w h1 h2 h3 => implConsOf_any v L (k : Int) w h1 HLS.out.2.1 HLS.out.1 h2 h3)
      rw [prefB_yes (by omega), ofC_cons hk1 hlt] at HPO
      have HTR := Lib.hid (fun v w h1 h2 h3 => implTreeRoot_any v (L.take k) w h1 (Nat.le_trans hsum HLS.out.1) (by rw [htl]; have := HLS.out.2.2; omega) h2 h3)
      have HPR := Lib.hid (fun u v w h1 h2 h3 h4 => implConsRoots_any u v (k : Int) (L.length : Int) (treeL (L.take k)) (consL L k true) w h1 h2 h3 h4)
      rw [rootsB_cons hk1 hlt HLS.out.2.1, (roots_cons hk1 hlt HLS.out.2.1).1, (roots_cons hk1 hlt HLS.out.2.1).2] at HPR
      have HPL := Lib.hid (fun w => implConsLen_any (k : Int) (L.length : Int) w)
      rw [clenZ_cons hk1 hlt HLS.out.2.1] at HPL
      have HPK := Lib.hid (fun u z v w h1 h2 h3 h4 h5 => implConsOk_any u z v (k : Int) (L.length : Int) (treeL (L.take k)) (treeL L) (consL L k true) w h1 h2 h3 h4 h5)
      rw [consOkB_cons hk1 hlt HLS.out.2.1] at HPK
      have HPS : Hid (∀ w w', Below w.heap.size w w' → ∀ v, SlS w w.heap.size v (consL L k true) → SlS w' w'.heap.size v (consL L k true)) := Lib.hid fun w w' hb v h => h.up hb
      have HTK : Hid (∀ w, Below w2.heap.size w2 w → SlS w w.heap.size (.slice (some ⟨b, off, none⟩) k c) (L.take k)) := Lib.hid fun w hb => (HUP.out w hb).2.2.2.2.2 k hlt
      generalize treeL (L.take k) = R1 at HTR HPR HPK
      generalize consL L k true = P at HPO HPR HPL HPK HPS
      generalize L.take k = Lk at HTR HTK
      clear hsum htl
      have HBR := Lib.hid hbr
      go_wp2_with fail
      refine (HPO.out _ wr (HUP.out wr hbr).1 (HUP.out wr hbr).2.2.1 (HUP.out wr hbr).2.2.2.1).mono ?_
      rintro e w5 ⟨u5, vs5, rfl, hv5, K5⟩
      have hp5 : SlS w5 w5.heap.size u5 P := InvG.slS K5 5 22 hv5 (.head _) (fun _ hp => .tail _ hp)
      have hb5 := hbr.trans (K5.bel.mono hbr.size)
      have HP5 := Lib.hid hp5
      obtain ⟨A5, c5, rfl, m1, m2, m0, m3⟩ := hp5
      clear hv5 K5 m0 m3 HPO
      unfold maxLen at m2
      go_wp2_with fail
      refine (HTR.out _ w5 (HTK.out w5 hb5) (HUP.out w5 hb5).2.2.1 (HUP.out w5 hb5).2.2.2.1).mono ?_
      rintro e w6 ⟨v6, rfl, ho6, hb6'⟩
      have hb6 := hb5.trans (hb6'.mono hb5.size)
      have HO6 := Lib.hid ho6.sl
      have HP6 := Lib.hid (HPS.out _ _ hb6' _ HP5.out)
      clear ho6 hb6'
      go_wp2_with fail
      refine (HPR.out v6 _ w6 HO6.out HP6.out (HUP.out w6 hb6).2.2.1 (HUP.out w6 hb6).2.2.2.1).mono ?_
      rintro e w7 ⟨v7, v8, rfl, K7⟩
      have hb7 := hb6.trans (K7.bel.mono hb6.size)
      have HO7 := Lib.hid (GOwn.b.1 (K7.2.1 _ (.head _))).sl
      have HO8 := Lib.hid (GOwn.b.1 (K7.2.1 _ (.tail _ (.head _)))).sl
      have HP7 := Lib.hid (HPS.out _ _ K7.bel _ HP6.out)
      have HQ7 := Lib.hid (HO6.out.up K7.bel)
      clear K7
      go_wp2_with fail
      refine (HPL.out w7).mono ?_
      rintro e w8 ⟨rfl, hb8'⟩
      have hb8 := hb7.trans (hb8'.mono hb7.size)
      have HP8 := Lib.hid (HPS.out _ _ hb8' _ HP7.out)
      have HQ8 := Lib.hid (HQ7.out.up hb8')
      have HO7' := Lib.hid (HO7.out.up hb8')
      have HO8' := Lib.hid (HO8.out.up hb8')
      have hne : ((P.length : Int) != (P.length : Int)) = false := by simp
      clear hb8'
      have HSA := Lib.hid (implSameBytes_any v7 v6 R1 R1 w8 HO7'.out HQ8.out)
      rw [show (R1 == R1) = true from by simp] at HSA
      have HSB := Lib.hid (implSameBytes_any v8 v4 (treeL L) (treeL L) w8 HO8'.out (HUP.out w8 hb8).2.1)
      rw [show (treeL L == treeL L) = true from by simp] at HSB
      go_wp2_with fail
      refine HSA.out.mono ?_
      rintro e w' ⟨rfl, hw⟩
      obtain rfl : w8 = w' := hw
      clear HSA
      go_wp2_with fail
      refine HSB.out.mono ?_
      rintro e w' ⟨rfl, hw⟩
      obtain rfl : w8 = w' := hw
      clear HSB
      go_wp2_with fail
      refine (HPK.out v6 v4 _ w8 HQ8.out (HUP.out w8 hb8).2.1 HP8.out (HUP.out w8 hb8).2.2.1 (HUP.out w8 hb8).2.2.2.1).mono ?_
      rintro e w9 ⟨rfl, hb9'⟩
      have HB9 := Lib.hid (hb8.trans (hb9'.mono hb8.size))
      clear hb9'
      go_wp2
      go_roundw
      case rel => exact ⟨k + 1, by omega, by omega, by go_num, HB9.out⟩
      case measure => simp [intOf]; omega
    · have hklt : ¬ (k : Int) ≤ (L.length : Int) := by omega
      have HB5 := Lib.hid (HUP.out wr hbr).2.2.2.2.1
      go_wp2
      go_ret
      exact ⟨rfl, HB5.out⟩
end Go.Proofs.YtlchadbbldkkfaaDoor
