/- The contracts of BitsHas, as the program has it and as its model has it. -/
import Derived.Test.YtlchadbbldkkfaaDoorBits
import Derived.Laws.BitsAllLaws
import Derived.Laws.Wrap64
namespace Go.Proofs.YtlchadbbldkkfaaDoor
open Go.ChangeShapes Go.WideShapes Go.ChangeAt Go.RowKit

theorem has_spec (l : List UInt8) (k : Nat) : ((wrap64 (bt l (k / 8)) / 2 ^ (k % 8)).tmod 2 == 1) = bitL l k := by
  have h0 := bt_lo l (k / 8)
  have h1 := bt_hi l (k / 8)
  have e : wrap64 (bt l (k / 8)) = bt l (k / 8) := by unfold wrap64; omega
  rw [e, bitL_div]
  unfold bt
  generalize (l.getD (k / 8) 0).toNat = c
  generalize k % 8 = j
  have e2 : ((c : Int) / 2 ^ j) = ((c / 2 ^ j : Nat) : Int) := by simp
  rw [e2]
  generalize c / 2 ^ j = d
  rw [Int.tmod_eq_emod_of_nonneg (by omega)]
  by_cases h : d % 2 = 1
  · rw [decide_eq_true h]
    simp
    omega
  · rw [decide_eq_false h]
    simp
    omega
theorem two_pow_lt (j : Nat) (hj : j < 8) : (2 : Nat) ^ j < 256 := by
  have : j = 0 ∨ j = 1 ∨ j = 2 ∨ j = 3 ∨ j = 4 ∨ j = 5 ∨ j = 6 ∨ j = 7 := by omega
  rcases this with rfl | rfl | rfl | rfl | rfl | rfl | rfl | rfl <;> decide
theorem two_pow_u8 (j : Nat) (hj : j < 8) : ((2 : Int) ^ j % 256) = ((2 ^ j : Nat) : Int) := by
  have := two_pow_lt j hj
  have e : ((2 : Int) ^ j) = ((2 ^ j : Nat) : Int) := by simp
  rw [e]
  generalize 2 ^ j = p at *
  omega
theorem has_impl (l : List UInt8) (k : Nat) : (bits BinOp.and IntKind.u8 (bt l (k / 8)) (2 ^ (k % 8) % 256) != 0) = bitL l k := by
  have hj : k % 8 < 8 := by omega
  have hc := (l.getD (k / 8) 0).toNat_lt
  unfold bt bitL
  rw [two_pow_u8 _ hj]
  generalize k % 8 = j at *
  generalize (l.getD (k / 8) 0).toNat = c at *
  have hp := two_pow_lt j hj
  rw [u8_and_nat c (2 ^ j) hc hp]
  cases ht : c.testBit j
  · have : c &&& 2 ^ j = 0 := by
      apply Nat.eq_of_testBit_eq
      intro i
      rw [Nat.testBit_and, Nat.testBit_two_pow]
      by_cases hi : j = i
      · subst hi
        simp [ht]
      · simp [hi]
    rw [this]
    rfl
  · have : c &&& 2 ^ j ≠ 0 := fun e => by
      have h2 : (c &&& 2 ^ j).testBit j = true := by
        rw [Nat.testBit_and, ht, Nat.testBit_two_pow]
        simp
      rw [e] at h2
      simp at h2
    have h3 : ((c &&& 2 ^ j : Nat) : Int) ≠ 0 := by omega
    simpa using h3
theorem hasB_no {l : List UInt8} {i : Int} (h : i < 0) : hasB l i = false := by
  unfold hasB
  rw [decide_eq_false (by omega)]
  rfl
theorem hasB_far {l : List UInt8} {k : Nat} (h : l.length ≤ k / 8) : hasB l (k : Int) = false := by
  unfold hasB
  rw [Int.toNat_natCast, bitL_far l k (by omega), Bool.and_false]
theorem hasB_at (l : List UInt8) (k : Nat) : hasB l (k : Int) = bitL l k := by
  unfold hasB
  rw [decide_eq_true (by omega), Int.toNat_natCast, Bool.true_and]
end Go.Proofs.YtlchadbbldkkfaaDoor
