/- The contracts of BitsHas, as the program has it and as its model has it. -/
import Derived.Test.YtoaokhhpgoabmaaDoorBits
import Derived.Laws.BitsAllLaws
import Derived.Laws.Wrap64
namespace Go.Proofs.YtoaokhhpgoabmaaDoor
open Go.ChangeShapes Go.WideShapes Go.ChangeAt Go.RowKit

theorem has_spec (l : List UInt8) (k : Nat) : ((wrap64 (bt l (k / 8)) / 2 ^ (k % 8)).tmod 2 == 1) = bitL l k := by
  have h0 := bt_lo l (k / 8)
  have h1 := bt_hi l (k / 8)
  have e : wrap64 (bt l (k / 8)) = bt l (k / 8) := by unfold wrap64; omega
  rw [e, bitL_div]
  unfold bt
  generalize (l.getD (k / 8) 0).toNat = c
  generalize k % 8 = j
  have e2 : ((c : Int) / 2 ^ j) = ((c / 2 ^ j : Nat) : Int) := by simp
  rw [e2]
  generalize c / 2 ^ j = d
  rw [Int.tmod_eq_emod_of_nonneg (by omega)]
  by_cases h : d % 2 = 1
  · rw [decide_eq_true h]
    simp
    omega
  · rw [decide_eq_false h]
    simp
    omega
theorem two_pow_lt (j : Nat) (hj : j < 8) : (2 : Nat) ^ j < 256 := by
  have : j = 0 ∨ j = 1 ∨ j = 2 ∨ j = 3 ∨ j = 4 ∨ j = 5 ∨ j = 6 ∨ j = 7 := by omega
  rcases this with rfl | rfl | rfl | rfl | rfl | rfl | rfl | rfl <;> decide
theorem two_pow_u8 (j : Nat) (hj : j < 8) : ((2 : Int) ^ j % 256) = ((2 ^ j : Nat) : Int) := by
  have := two_pow_lt j hj
  have e : ((2 : Int) ^ j) = ((2 ^ j : Nat) : Int) := by simp
  rw [e]
  generalize 2 ^ j = p at *
  omega
theorem has_impl (l : List UInt8) (k : Nat) : (bits BinOp.and IntKind.u8 (bt l (k / 8)) (2 ^ (k % 8) % 256) != 0) = bitL l k := by
  have hj : k % 8 < 8 := by omega
  have hc := (l.getD (k / 8) 0).toNat_lt
  unfold bt bitL
  rw [two_pow_u8 _ hj]
  generalize k % 8 = j at *
  generalize (l.getD (k / 8) 0).toNat = c at *
  have hp := two_pow_lt j hj
  rw [u8_and_nat c (2 ^ j) hc hp]
  cases ht : c.testBit j
  · have : c &&& 2 ^ j = 0 := by
      apply Nat.eq_of_testBit_eq
      intro i
      rw [Nat.testBit_and, Nat.testBit_two_pow]
      by_cases hi : j = i
      · subst hi
        simp [ht]
      · simp [hi]
    rw [this]
    rfl
  · have : c &&& 2 ^ j ≠ 0 := fun e => by
      have h2 : (c &&& 2 ^ j).testBit j = true := by
        rw [Nat.testBit_and, ht, Nat.testBit_two_pow]
        simp
      rw [e] at h2
      simp at h2
    have h3 : ((c &&& 2 ^ j : Nat) : Int) ≠ 0 := by omega
    simpa using h3
theorem hasB_no {l : List UInt8} {i : Int} (h : i < 0) : hasB l i = false := by
  unfold hasB
  rw [decide_eq_false (by omega)]
  rfl
theorem hasB_far {l : List UInt8} {k : Nat} (h : l.length ≤ k / 8) : hasB l (k : Int) = false := by
  unfold hasB
  rw [Int.toNat_natCast, bitL_far l k (by omega), Bool.and_false]
theorem hasB_at (l : List UInt8) (k : Nat) : hasB l (k : Int) = bitL l k := by
  unfold hasB
  rw [decide_eq_true (by omega), Int.toNat_natCast, Bool.true_and]
set_option maxHeartbeats 400000 in
theorem specBitsHas_any (v : Value) (l : List UInt8) (i : Int) (w : World) (h : Sl w w.heap.size v l) (hl : l.length ≤ 4294967296) (hi : i ≤ 9223372036854775807) :
    Calls Tryd.prog 53 #[v, .int .i64 i] w (Quiet (.bool (hasB l i)) w) := by
  obtain ⟨A, c, rfl, h1, h2, h0, h3⟩ := h
  unfold maxLen at h2
  clear h0
  by_cases hneg : i < 0
  · rw [hasB_no hneg]
    go_enter Tryd.func53, Tryd.ntmps53
    go_wp2
    go_ret
    exact ⟨rfl, 0, rfl⟩
  · obtain ⟨k, rfl⟩ := Int.eq_ofNat_of_zero_le (show 0 ≤ i by omega)
    by_cases hlt : k / 8 < l.length
    · obtain ⟨b, off, rfl, hbb, hcell⟩ := h3 (by omega)
      have hc0 := hcell (k / 8) hlt
      have hlt' : (k : Int) / 8 < (l.length : Int) := by omega
      clear hcell
      go_enter Tryd.func53, Tryd.ntmps53
      go_wp2
      go_ret
      exact ⟨by rw [has_spec, hasB_at]; rfl, 0, rfl⟩
    · rw [hasB_far (by omega)]
      have hlt' : ¬ ((k : Int) / 8 < (l.length : Int)) := by omega
      go_enter Tryd.func53, Tryd.ntmps53
      go_wp2
      go_ret
      exact ⟨rfl, 0, rfl⟩
set_option maxHeartbeats 400000 in
theorem implBitsHas_any (v : Value) (l : List UInt8) (i : Int) (w : World) (h : Sl w w.heap.size v l) (hl : l.length ≤ 4294967296) (hi : i ≤ 9223372036854775807) :
    Calls Tryd.prog 17 #[v, .int .i64 i] w (Quiet (.bool (hasB l i)) w) := by
  obtain ⟨A, c, rfl, h1, h2, h0, h3⟩ := h
  unfold maxLen at h2
  clear h0
  by_cases hneg : i < 0
  · rw [hasB_no hneg]
    have hd : decide ((0 : Int) ≤ i) = false := decide_eq_false (by omega)
    go_enter Tryd.func17, Tryd.ntmps17
    go_wp2
    go_quiet (fail)
    go_wp2
    go_ret
    exact ⟨rfl, _, rfl⟩
  · obtain ⟨k, rfl⟩ := Int.eq_ofNat_of_zero_le (show 0 ≤ i by omega)
    by_cases hlt : k / 8 < l.length
    · obtain ⟨b, off, rfl, hbb, hcell⟩ := h3 (by omega)
      have hc0 := hcell (k / 8) hlt
      have hlt' : (k : Int) / 8 < (l.length : Int) := by omega
      clear hcell
      go_enter Tryd.func17, Tryd.ntmps17
      go_wp2
      go_quiet (fail)
      go_wp2
      go_ret
      exact ⟨by rw [has_impl, hasB_at]; rfl, _, rfl⟩
    · rw [hasB_far (by omega)]
      have hd : decide ((k : Int) / 8 < (l.length : Int)) = false := decide_eq_false (by omega)
      go_enter Tryd.func17, Tryd.ntmps17
      go_wp2
      go_quiet (fail)
      go_wp2
      go_ret
      exact ⟨rfl, _, rfl⟩
end Go.Proofs.YtoaokhhpgoabmaaDoor
