/- The walk of the exact law of ShaInit: for every argument the law answers true and leaves all memory that was there as it was. -/
import Derived.Test.YtmcpkkadlhnpdaaDoorWords
namespace Go.Proofs.YtmcpkkadlhnpdaaDoor
open Go.ChangeShapes Go.WideShapes Go.ChangeAt Go.RowKit

set_option maxRecDepth 100000 in
set_option maxHeartbeats 2000000 in
theorem ShaInit_walk  (W : World)  (hg : Glob W 0 initW) :
    Calls Tryd.prog 3 #[] W (Yes W) := by
  have hp : (wi initW).length ≤ 1073741824 := by have := wi_length initW; have h8 : initW.length = 8 := rfl; omega
  obtain ⟨L, hL⟩ : ∃ L, L = wi initW := ⟨_, rfl⟩
  rw [← hL] at hp
  have HL := Lib.hid hL
  clear hL
  have H : InvG W W [] := InvG.start W
  go_enter Tryd.func3, Tryd.ntmps3
  go_wp2_with fail
  refine (specShaInit_any   _   ).mono ?_
  rw [← HL.out]
  rintro e w1 ⟨u1, rfl, ho, hb⟩
  replace H := H.moreI ho hb
  clear ho hb
  go_wp2_with fail
  refine (implShaInit_any   _   (hg.up H.bel)).mono ?_
  rw [← HL.out]
  rintro e w2 ⟨u2, rfl, ho, hb⟩
  replace H := H.moreI ho hb
  clear ho hb
  go_wp2_with fail
  refine (eqIntS_any _ _ L _ (H.slI 3 (by simp)) (H.slI 3 (by simp))).mono ?_
  rintro e _ ⟨rfl, d3, rfl⟩
  replace H := H.drewN d3
  go_wp2_with fail
  refine (markIntS_z _ L (1) _ _ _ (H.ownI 3 (by simp)) rfl (by omega) (by omega)).mono ?_
  rintro e w4 ⟨rfl, ho, hg⟩
  replace H := H.wroteAtI 0 rfl ho hg
  simp only [List.set_cons_zero] at H
  clear ho hg
  go_wp2_with fail
  refine (heldIntS_z _ 1 L.length _ _ (H.slI 3 (by simp)) rfl (by omega) (by omega)).mono ?_
  rintro e _ ⟨rfl, d5, rfl⟩
  replace H := H.drewN d5
  have hltL : ¬ ((1 : Int) + (L.length : Int) < 0) := by omega
  have hneL : ((1 : Int) + (L.length : Int) != 1 + (L.length : Int)) = false := by simp
  go_wp2_with fail
  refine (implShaInit_any   _   (hg.up H.bel)).mono ?_
  rw [← HL.out]
  rintro e w6 ⟨u6, rfl, ho, hb⟩
  replace H := H.moreI ho hb
  clear ho hb
  go_wp2_with fail
  refine (eqIntS_any _ _ L _ (H.slI 3 (by simp)) (H.slI 3 (by simp))).mono ?_
  rintro e _ ⟨rfl, d7, rfl⟩
  replace H := H.drewN d7
  go_wp2_with fail
  refine (heldIntS_z _ 1 L.length _ _ (H.slI 3 (by simp)) rfl (by omega) (by omega)).mono ?_
  rintro e _ ⟨rfl, d8, rfl⟩
  replace H := H.drewN d8
  go_wp2_with fail
  go_ret
  exact ⟨rfl, by have hfin := H.bel; simpa using hfin⟩
end Go.Proofs.YtmcpkkadlhnpdaaDoor
