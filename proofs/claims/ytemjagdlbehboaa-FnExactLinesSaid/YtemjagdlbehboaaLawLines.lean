/- The walk of the exact law of Lines: for every argument the law answers true and leaves all memory that was there as it was. -/
import Derived.Test.YtemjagdlbehboaaLines
namespace Go.Proofs.Ytemjagdlbehboaa
open Go.ChangeShapes Go.WideShapes Go.ChangeAt Go.RowKit

set_option maxRecDepth 100000 in
set_option maxHeartbeats 2000000 in
theorem Lines_walk (t0 : ByteArray) (W : World) (hsz : t0.size ≤ 9223372036854775807) :
    Calls Try.prog 5 #[.string t0] W (Yes W) := by
  by_cases hbig : 1048576 < t0.size
  · have hb : (1048576 : Int) < (t0.size : Int) := by omega
    go_enter Try.func5, Try.ntmps5
    go_wp2
    go_ret
    exact ⟨rfl, Below.refl _ _⟩
  have hb0 : ¬ ((1048576 : Int) < (t0.size : Int)) := by omega
  have hp : (linesL t0).length ≤ 1073741824 := by have := linesL_len t0; omega
  obtain ⟨L, hL⟩ : ∃ L, L = linesL t0 := ⟨_, rfl⟩
  rw [← hL] at hp
  have HL := Lib.hid hL
  clear hL
  have H : InvG W W [] := InvG.start W
  go_enter Try.func5, Try.ntmps5
  go_wp2_with fail
  refine (specLines_any t0 _ (by omega)).mono ?_
  rw [← HL.out]
  rintro e w1 ⟨u1, rfl, ho, hb⟩
  replace H := H.moreT ho hb
  clear ho hb
  go_wp2_with fail
  refine (implLines_any t0 _ (by omega)).mono ?_
  rw [← HL.out]
  rintro e w2 ⟨u2, rfl, ho, hb⟩
  replace H := H.moreT ho hb
  clear ho hb
  go_wp2_with fail
  refine (eqStringS_any _ _ L _ (H.slT 9 (by simp)) (H.slT 9 (by simp))).mono ?_
  rintro e _ ⟨rfl, d3, rfl⟩
  replace H := H.drewN d3
  go_wp2_with fail
  refine (markStringS_any _ L 1 _ _ (H.ownT 9 (by simp)) (by omega) (by omega) (by omega)).mono ?_
  rintro e w4 ⟨rfl, ho, hg⟩
  replace H := H.wroteAtT 0 rfl ho hg
  simp only [List.set_cons_zero] at H
  clear ho hg
  go_wp2_with fail
  refine (heldStringS_any _ 1 L.length _ (H.slT 9 (by simp)) (by omega) (by omega) (by omega)).mono ?_
  rintro e w5 ⟨rfl, hb⟩
  replace H := H.up hb
  clear hb
  have hltL : ¬ (((1 : Nat) : Int) + (L.length : Int) < 0) := by omega
  have hneL : (((1 : Nat) : Int) + (L.length : Int) != ((1 : Nat) : Int) + (L.length : Int)) = false := by simp
  go_wp2_with fail
  refine (implLines_any t0 _ (by omega)).mono ?_
  rw [← HL.out]
  rintro e w6 ⟨u6, rfl, ho, hb⟩
  replace H := H.moreT ho hb
  clear ho hb
  go_wp2_with fail
  refine (eqStringS_any _ _ L _ (H.slT 9 (by simp)) (H.slT 9 (by simp))).mono ?_
  rintro e _ ⟨rfl, d7, rfl⟩
  replace H := H.drewN d7
  go_wp2_with fail
  refine (heldStringS_any _ 1 L.length _ (H.slT 9 (by simp)) (by omega) (by omega) (by omega)).mono ?_
  rintro e w8 ⟨rfl, hb⟩
  replace H := H.up hb
  clear hb
  go_wp2_with fail
  go_ret
  exact ⟨rfl, by have hfin := H.bel; simpa using hfin⟩
end Go.Proofs.Ytemjagdlbehboaa
