/- The walk of the law FnPath: for every argument the law answers true and leaves all memory that was there as it was. -/
import Derived.Test.YtlchadbbldkkfaaDoorMakeList
import Derived.Test.YtlchadbbldkkfaaDoorPathOf
import Derived.Test.YtlchadbbldkkfaaDoorPathOk
namespace Go.Proofs.YtlchadbbldkkfaaDoor
open Go.ChangeShapes Go.WideShapes Go.ChangeAt Go.RowKit

section
variable {L : List (List UInt8)} {k : Nat}
theorem ofP_path (h : k < L.length) : ofP L (k : Int) = pathL L k := by
  unfold ofP
  rw [leafB_yes (by omega), if_pos rfl]
  rfl
theorem plenZ_path (h : k < L.length) (hL : L.length ≤ 1048576) : plenZ (k : Int) (L.length : Int) = ((pathL L k).length : Int) := by
  unfold plenZ
  rw [if_pos (pathB_yes (by omega)), pathL_length]
  rfl
theorem rootB_path (h : k < L.length) (hL : L.length ≤ 1048576) : rootB (leafL (L.getD k [])) (k : Int) (L.length : Int) (pathL L k) = true :=
  rootB_yes ⟨leafL_length _, pathB_yes (by omega), (plenZ_path h hL).symm, all32_of (pathL_32 L k)⟩
theorem rootP_path (h : k < L.length) (hL : L.length ≤ 1048576) : rootP (leafL (L.getD k [])) (k : Int) (L.length : Int) (pathL L k) = treeL L := by
  unfold rootP
  rw [rootB_path h hL, if_pos rfl]
  exact rootR_path L.length L k (Nat.le_refl _) h
theorem leadsB_path (h : k < L.length) (hL : L.length ≤ 1048576) : leadsB (L.getD k []) (k : Int) (L.length : Int) (pathL L k) (treeL L) = true := by
  unfold leadsB
  rw [rootB_path h hL, rootP_path h hL]
  simp
end

set_option maxRecDepth 100000 in
set_option maxHeartbeats 8000000 in
theorem FnPath_walk (v0 : Value) (l0 : List UInt8) (W : World) (h0 : Sl W W.heap.size v0 l0)
    (hgI : Glob W 0 initW) (hg : Glob W 1 kk) :
    Calls Tryd.prog 3 #[v0] W (Yes W) := by
  have hs0 := h0
  obtain ⟨A0, c0, rfl, p0, q0, r0, z0⟩ := h0
  unfold maxLen at q0
  clear r0 z0
  by_cases hbig0 : 1048576 < l0.length
  · have hb : (1048576 : Int) < (l0.length : Int) := by omega
    go_enter Tryd.func3, Tryd.ntmps3
    go_wp2
    go_ret
    exact ⟨rfl, Below.refl _ _⟩
  have hb0 : ¬ ((1048576 : Int) < (l0.length : Int)) := by omega
  go_enter Tryd.func3, Tryd.ntmps3
  go_wp2_with fail
  refine (MakeList_any _ l0 _ hs0 (by omega)).mono ?_
  rintro e w1 ⟨L, u, vs, rfl, hvl, hL0, hL9, hLs, K⟩
  have hb1 := K.bel
  have hS : SlS w1 w1.heap.size u L := ((InvF.start W).more K).slS 22 5 hvl (.head _)
  have hI1 := hgI.below hgI.lt hb1
  have hG1 := hg.below hg.lt hb1
  clear hvl K p0 q0 hb0 hs0 hgI hg
  have HS := Lib.hid hS
  have HG := Lib.hid (And.intro hI1 hG1)
  have HLS : Hid (sumL L ≤ 1073741000 ∧ L.length ≤ 1048576 ∧ L.length ≤ 1073741824) := Lib.hid ⟨by omega, by omega, by omega⟩
  have HB1 := Lib.hid hb1
  obtain ⟨A, c, rfl, h1, h2, k0, h3⟩ := hS
  unfold maxLen at h2
  obtain ⟨b, off, rfl, hbb, hcell⟩ := h3 hL0
  have HCELL := Lib.hid hcell
  clear k0 h3 hI1 hG1 hLs hb1 hcell
  go_wp2_with fail
  refine (implTreeRoot_any _ L w1 HS.out HLS.out.1 HLS.out.2.2 HG.out.1 HG.out.2).mono ?_
  rintro e w2 ⟨v4, rfl, ho4, hb2⟩
  have HUP : Hid (∀ w, Below w2.heap.size w2 w → SlS w w.heap.size (.slice (some ⟨b, off, none⟩) L.length c) L ∧ Sl w w.heap.size v4 (treeL L) ∧ Glob w 0 initW ∧ Glob w 1 kk ∧ Below W.heap.size W w ∧
      ∀ k, k < L.length → ∃ x, w.cell? ⟨b, off + k, none⟩ = some x ∧ Sl w w.heap.size x (L.getD k [])) := Lib.hid fun w hb => by
    have h12 := hb2.trans (hb.mono hb2.size)
    refine ⟨HS.out.up h12, ho4.sl.up hb, HG.out.1.up h12, HG.out.2.up h12, HB1.out.trans (h12.mono HB1.out.size), fun k hk => ?_⟩
    obtain ⟨x, hx0, hx⟩ := HCELL.out k hk
    exact ⟨x, (h12.cell (p := ⟨b, off + k, none⟩) hbb).trans hx0, hx.up h12⟩
  clear HS HG HB1 HCELL ho4 hb2
  go_wp2
  go_loopw [22] (fun i wr => ∃ k : Nat, k ≤ L.length ∧ i = .int .i64 k ∧ Below w2.heap.size w2 wr)
    (fun i _ => L.length - (intOf i).toNat)
  case atStart => exact ⟨0, Nat.zero_le _, rfl, Below.refl _ _⟩
  case round =>
    obtain ⟨k, hk, rfl, hbr⟩ := hrel
    by_cases hlt : k < L.length
    · have hklt : (k : Int) < (L.length : Int) := by omega
      obtain ⟨xv, hx0, hx⟩ := (HUP.out wr hbr).2.2.2.2.2 k hlt
      have HX := Lib.hid hx
      have hlf : leafB (k : Int) (L.length : Int) = true := leafB_yes (by omega)
      have hsum := sumL_one L k hlt
      have HPO := Lib.hid (fun v w h1 h2 h3 => implPathOf_any v L (k : Int) w h1 HLS.out.2.1 HLS.out.1 h2 h3)
      rw [hlf, ofP_path hlt] at HPO
      have HYS : Hid ((L.getD k []).length ≤ 1073741000) := Lib.hid (by have := HLS.out.1; omega)
      have HPR := Lib.hid (fun u v w h1 h2 h3 h4 => implPathRoot_any u v (leafL (L.getD k [])) (k : Int) (L.length : Int) (pathL L k) w h1 h2 h3 h4)
      rw [rootB_path hlt HLS.out.2.1, rootP_path hlt HLS.out.2.1] at HPR
      have HPL := Lib.hid (fun w => implPathLen_any (k : Int) (L.length : Int) w)
      rw [plenZ_path hlt HLS.out.2.1] at HPL
      have HPK := Lib.hid (fun u v z w h1 h2 h3 h4 h5 => implPathOk_any u v z (L.getD k []) (k : Int) (L.length : Int) (pathL L k) (treeL L) w h1 h2 h3 HYS.out h4 h5)
      rw [leadsB_path hlt HLS.out.2.1] at HPK
      have HPS : Hid (∀ w w', Below w.heap.size w w' → ∀ v, SlS w w.heap.size v (pathL L k) → SlS w' w'.heap.size v (pathL L k)) := Lib.hid fun w w' hb v h => h.up hb
      generalize L.getD k [] = y at HX HYS HPR HPK
      generalize pathL L k = P at HPO HPR HPL HPK HPS
      have HLH := Lib.hid (fun v w h1 h2 h3 => implLeafHash_any v y w h1 HYS.out h2 h3)
      generalize leafL y = ly at HPR HLH
      clear hx hlf hsum
      have HBR := Lib.hid hbr
      go_wp2_with fail
      refine (HPO.out _ wr (HUP.out wr hbr).1 (HUP.out wr hbr).2.2.1 (HUP.out wr hbr).2.2.2.1).mono ?_
      rintro e w5 ⟨u5, vs5, rfl, hv5, K5⟩
      have hp5 : SlS w5 w5.heap.size u5 P := InvG.slS K5 5 22 hv5 (.head _) (fun _ hp => .tail _ hp)
      have hb5 := hbr.trans (K5.bel.mono hbr.size)
      have HX5 := Lib.hid (HX.out.up K5.bel)
      have HP5 := Lib.hid hp5
      obtain ⟨A5, c5, rfl, m1, m2, m0, m3⟩ := hp5
      clear hv5 K5 m0 m3 HX HPO
      unfold maxLen at m2
      go_wp2_with fail
      refine (HLH.out xv w5 HX5.out (HUP.out w5 hb5).2.2.1 (HUP.out w5 hb5).2.2.2.1).mono ?_
      rintro e w6 ⟨v6, rfl, ho6, hb6'⟩
      have hb6 := hb5.trans (hb6'.mono hb5.size)
      have HX6 := Lib.hid (HX5.out.up hb6')
      have HP6 := Lib.hid (HPS.out _ _ hb6' _ HP5.out)
      go_wp2_with fail
      refine (HPR.out v6 _ w6 ho6.sl HP6.out (HUP.out w6 hb6).2.2.1 (HUP.out w6 hb6).2.2.2.1).mono ?_
      rintro e w7 ⟨v7, rfl, ho7, hb7'⟩
      have hb7 := hb6.trans (hb7'.mono hb6.size)
      have HX7 := Lib.hid (HX6.out.up hb7')
      have HP7 := Lib.hid (HPS.out _ _ hb7' _ HP6.out)
      clear ho6 hb6' hb7'
      go_wp2_with fail
      refine (HPL.out w7).mono ?_
      rintro e w8 ⟨rfl, hb8'⟩
      have hb8 := hb7.trans (hb8'.mono hb7.size)
      have HX8 := Lib.hid (HX7.out.up hb8')
      have HP8 := Lib.hid (HPS.out _ _ hb8' _ HP7.out)
      have HO8 := Lib.hid (ho7.sl.up hb8')
      have hne : ((P.length : Int) != (P.length : Int)) = false := by simp
      clear ho7 hb8'
      go_wp2_with fail
      refine (implSameBytes_any v7 v4 (treeL L) (treeL L) w8 HO8.out (HUP.out w8 hb8).2.1).mono ?_
      rintro e w' ⟨rfl, hw⟩
      obtain rfl : w8 = w' := hw
      rw [show (treeL L == treeL L) = true from by simp]
      go_wp2_with fail
      refine (HPK.out xv _ v4 w8 HX8.out HP8.out (HUP.out w8 hb8).2.1 (HUP.out w8 hb8).2.2.1 (HUP.out w8 hb8).2.2.2.1).mono ?_
      rintro e w9 ⟨rfl, hb9'⟩
      have HB9 := Lib.hid (hb8.trans (hb9'.mono hb8.size))
      clear hb9'
      go_wp2
      go_roundw
      case rel => exact ⟨k + 1, by omega, by go_num, HB9.out⟩
      case measure => simp [intOf]; omega
    · obtain rfl : k = L.length := by omega
      have HPO := Lib.hid (fun v w h1 h2 h3 => implPathOf_any v L (L.length : Int) w h1 HLS.out.2.1 HLS.out.1 h2 h3)
      rw [leafB_no (by omega)] at HPO
      go_wp2_with fail
      refine (HPO.out _ wr (HUP.out wr hbr).1 (HUP.out wr hbr).2.2.1 (HUP.out wr hbr).2.2.2.1).mono ?_
      rintro e w5 ⟨u5, vs5, rfl, hv5, K5⟩
      have HB5 := Lib.hid (HUP.out w5 (hbr.trans (K5.bel.mono hbr.size))).2.2.2.2.1
      clear hv5 K5
      go_wp2
      go_ret
      exact ⟨rfl, HB5.out⟩
end Go.Proofs.YtlchadbbldkkfaaDoor
