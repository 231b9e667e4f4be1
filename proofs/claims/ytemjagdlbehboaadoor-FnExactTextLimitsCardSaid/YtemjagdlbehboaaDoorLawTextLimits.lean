/- The walk of the exact law of TextLimits: for every string the law answers true and leaves all memory that was there as it was. -/
import Derived.Test.YtemjagdlbehboaaDoorTextLim
namespace Go.Proofs.YtemjagdlbehboaaDoor
open Go.ChangeShapes Go.WideShapes Go.ChangeAt Go.RowKit

set_option maxRecDepth 100000 in
set_option maxHeartbeats 2000000 in
theorem TextLimits_walk (t : ByteArray) (W : World) (hsz : t.size ≤ 9223372036854775807) (hv : ErrVars W) (hT : Tab10 W) :
    Calls Tryd.prog 4 #[.string t] W (Yes W) := by
  by_cases hbig : 1048576 < t.size
  · have hb : (1048576 : Int) < (t.size : Int) := by omega
    go_enter Tryd.func4, Tryd.ntmps4
    go_wp2
    go_ret
    exact ⟨rfl, Below.refl _ _⟩
  have hb : ¬ ((1048576 : Int) < (t.size : Int)) := by omega
  have hsp := fun W => specTextLimits_any t W (by omega)
  have him := fun W h1 h2 => implTextLimits_any t W (by omega) h1 h2
  unfold TLim at hsp him
  obtain ⟨z0, e0⟩ : ∃ z, z = tlI t 0 := ⟨_, rfl⟩
  obtain ⟨z1, e1⟩ : ∃ z, z = tlI t 1 := ⟨_, rfl⟩
  obtain ⟨z2, e2⟩ : ∃ z, z = tlI t 2 := ⟨_, rfl⟩
  obtain ⟨z3, e3⟩ : ∃ z, z = tlI t 3 := ⟨_, rfl⟩
  obtain ⟨z4, e4⟩ : ∃ z, z = tlI t 4 := ⟨_, rfl⟩
  obtain ⟨x, ex⟩ : ∃ x, x = decide (tlOk t) := ⟨_, rfl⟩
  simp only [← e0, ← e1, ← e2, ← e3, ← e4, ← ex] at hsp him
  have Hsp := Lib.hid hsp
  have Him := Lib.hid him
  have Hv := Lib.hid hv
  have HT := Lib.hid hT
  have hne : (x != x) = false := by simp
  clear hsp him hv hT e0 e1 e2 e3 e4 ex hbig
  go_enter Tryd.func4, Tryd.ntmps4
  go_wp2_with fail
  refine (Hsp.out _).mono ?_
  rintro ev w1 ⟨rfl, hb1⟩
  have hX := Box5.new w1 25 z0 z1 z2 z3 z4
  have hc1 : Below W.heap.size W (w1.alloc (.cells #[.int .i64 z0, .int .i64 z1, .int .i64 z2, .int .i64 z3, .int .i64 z4] 25)) := hb1.alloc hb1.size _
  go_wp2_with fail
  refine (Him.out _ (Hv.out.up hc1) (HT.out.up hc1)).mono ?_
  rintro ev w2 ⟨rfl, hb2⟩
  replace hX := (hX.up hb2).up ((Below.refl _ _).alloc (Nat.le_refl _) (.cells #[.int .i64 z0, .int .i64 z1, .int .i64 z2, .int .i64 z3, .int .i64 z4] 25))
  have hY := Box5.new w2 25 z0 z1 z2 z3 z4
  have hc2 : Below W.heap.size W (w2.alloc (.cells #[.int .i64 z0, .int .i64 z1, .int .i64 z2, .int .i64 z3, .int .i64 z4] 25)) := (hc1.trans (hb2.mono hc1.size)).alloc (hc1.trans (hb2.mono hc1.size)).size _
  obtain ⟨⟨c0, c1, c2, c3, c4⟩, _⟩ := hX.facts
  obtain ⟨⟨d0, d1, d2, d3, d4⟩, _⟩ := hY.facts
  go_wp2_with fail
  refine (eqLimits_any z0 z1 z2 z3 z4 _).mono ?_
  rintro ev w3 ⟨rfl, hb3⟩
  go_wp2
  go_ret
  exact ⟨rfl, hc2.trans (hb3.mono hc2.size)⟩
end Go.Proofs.YtemjagdlbehboaaDoor
