/- List: Bits, Has, List. -/
import Derived.Test.YtickneafppbegaaDoorPut
import Derived.Test.YtickneafppbegaaDoorMem
import Derived.Laws.BitsAllLaws
import Derived.Laws.Wrap64
import Derived.Shelf.Small.Bits

/- The contracts of the small functions on bitmaps: BitsSize, BitsNew, BitsHas and what they call, as the program has them and as their model has them. -/
namespace Go.Proofs.YtickneafppbegaaDoor
open Go.ChangeShapes Go.WideShapes Go.ChangeAt Go.RowKit

theorem wfHi {n : Int} (h : (Lit.int .i64 n).wf = true) : n ≤ 9223372036854775807 := by
  simp [Lit.wf, IntKind.min, IntKind.max, IntKind.signed, IntKind.bits] at h
  omega
theorem l02Signers_any (n : Int) (w : World) :
    Calls Tryd.prog 31 #[.int .i64 n] w fun e w' => e = .returned (.bool (decide (cntOk n))) ∧ w = w' := by
  by_cases h : cntOk n
  · rw [decide_eq_true h]
    have h1 := h.1
    have h2 := h.2
    clear h
    go_enter Tryd.func31, Tryd.ntmps31
    go_wp2_with fail
    refine (l01In_yes _ _ _ _ h1 h2).mono ?_
    rintro e w' ⟨rfl, rfl⟩
    go_wp2
    go_ret
    exact ⟨rfl, rfl⟩
  · rw [decide_eq_false h]
    have H := Lib.hid h
    clear h
    go_enter Tryd.func31, Tryd.ntmps31
    go_wp2_with fail
    refine (l01In_no _ _ _ _ H.out).mono ?_
    rintro e w' ⟨rfl, rfl⟩
    go_wp2
    go_ret
    exact ⟨rfl, rfl⟩
theorem isSignerCount_any (n : Int) (w : World) :
    Calls Tryd.prog 35 #[.int .i64 n] w fun e w' => e = .returned (.bool (decide (cntOk n))) ∧ w = w' := by
  by_cases h : cntOk n
  · rw [decide_eq_true h]
    have h1 := h.1
    have h2 := h.2
    clear h
    go_enter Tryd.func35, Tryd.ntmps35
    go_wp2
    go_ret
    exact ⟨rfl, rfl⟩
  · rw [decide_eq_false h]
    by_cases h0 : 1 ≤ n
    · have h1 : 10 < n := by unfold cntOk at h; omega
      clear h
      go_enter Tryd.func35, Tryd.ntmps35
      go_wp2
      go_ret
      exact ⟨by simp; omega, rfl⟩
    · have h1 : n < 1 := by omega
      clear h h0
      go_enter Tryd.func35, Tryd.ntmps35
      go_wp2
      go_ret
      exact ⟨rfl, rfl⟩
def isIn (i n : Int) : Bool := decide (0 ≤ i ∧ i < n)
theorem isSigner_any (i n : Int) (w : World) :
    Calls Tryd.prog 51 #[.int .i64 i, .int .i64 n] w fun e w' => e = .returned (.bool (isIn i n)) ∧ w = w' := by
  unfold isIn
  by_cases h0 : 0 ≤ i
  · by_cases h1 : i < n
    · rw [decide_eq_true ⟨h0, h1⟩]
      go_enter Tryd.func51, Tryd.ntmps51
      go_wp2
      go_ret
      exact ⟨rfl, rfl⟩
    · rw [decide_eq_false (fun h => h1 h.2)]
      go_enter Tryd.func51, Tryd.ntmps51
      go_wp2
      go_ret
      exact ⟨rfl, rfl⟩
  · rw [decide_eq_false (fun h => h0 h.1)]
    have h1 : i < 0 := by omega
    go_enter Tryd.func51, Tryd.ntmps51
    go_wp2
    go_ret
    exact ⟨rfl, rfl⟩

theorem us_zeros (m : Nat) : us (List.replicate m 0) = List.replicate m (.int .u8 0) := by simp [us]
end Go.Proofs.YtickneafppbegaaDoor

/- The contracts of BitsHas, as the program has it and as its model has it. -/
namespace Go.Proofs.YtickneafppbegaaDoor
open Go.ChangeShapes Go.WideShapes Go.ChangeAt Go.RowKit

theorem has_spec (l : List UInt8) (k : Nat) : ((wrap64 (bt l (k / 8)) / 2 ^ (k % 8)).tmod 2 == 1) = bitL l k := by
  have h0 := bt_lo l (k / 8)
  have h1 := bt_hi l (k / 8)
  have e : wrap64 (bt l (k / 8)) = bt l (k / 8) := by unfold wrap64; omega
  rw [e, bitL_div]
  unfold bt
  generalize (l.getD (k / 8) 0).toNat = c
  generalize k % 8 = j
  have e2 : ((c : Int) / 2 ^ j) = ((c / 2 ^ j : Nat) : Int) := by simp
  rw [e2]
  generalize c / 2 ^ j = d
  rw [Int.tmod_eq_emod_of_nonneg (by omega)]
  by_cases h : d % 2 = 1
  · rw [decide_eq_true h]
    simp
    omega
  · rw [decide_eq_false h]
    simp
    omega
theorem two_pow_lt (j : Nat) (hj : j < 8) : (2 : Nat) ^ j < 256 := by
  have : j = 0 ∨ j = 1 ∨ j = 2 ∨ j = 3 ∨ j = 4 ∨ j = 5 ∨ j = 6 ∨ j = 7 := by omega
  rcases this with rfl | rfl | rfl | rfl | rfl | rfl | rfl | rfl <;> decide
theorem two_pow_u8 (j : Nat) (hj : j < 8) : ((2 : Int) ^ j % 256) = ((2 ^ j : Nat) : Int) := by
  have := two_pow_lt j hj
  have e : ((2 : Int) ^ j) = ((2 ^ j : Nat) : Int) := by simp
  rw [e]
  generalize 2 ^ j = p at *
  omega
theorem has_impl (l : List UInt8) (k : Nat) : (bits BinOp.and IntKind.u8 (bt l (k / 8)) (2 ^ (k % 8) % 256) != 0) = bitL l k := by
  have hj : k % 8 < 8 := by omega
  have hc := (l.getD (k / 8) 0).toNat_lt
  unfold bt bitL
  rw [two_pow_u8 _ hj]
  generalize k % 8 = j at *
  generalize (l.getD (k / 8) 0).toNat = c at *
  have hp := two_pow_lt j hj
  rw [u8_and_nat c (2 ^ j) hc hp]
  cases ht : c.testBit j
  · have : c &&& 2 ^ j = 0 := by
      apply Nat.eq_of_testBit_eq
      intro i
      rw [Nat.testBit_and, Nat.testBit_two_pow]
      by_cases hi : j = i
      · subst hi
        simp [ht]
      · simp [hi]
    rw [this]
    rfl
  · have : c &&& 2 ^ j ≠ 0 := fun e => by
      have h2 : (c &&& 2 ^ j).testBit j = true := by
        rw [Nat.testBit_and, ht, Nat.testBit_two_pow]
        simp
      rw [e] at h2
      simp at h2
    have h3 : ((c &&& 2 ^ j : Nat) : Int) ≠ 0 := by omega
    simpa using h3
theorem hasB_no {l : List UInt8} {i : Int} (h : i < 0) : hasB l i = false := by
  unfold hasB
  rw [decide_eq_false (by omega)]
  rfl
theorem hasB_far {l : List UInt8} {k : Nat} (h : l.length ≤ k / 8) : hasB l (k : Int) = false := by
  unfold hasB
  rw [Int.toNat_natCast, bitL_far l k (by omega), Bool.and_false]
theorem hasB_at (l : List UInt8) (k : Nat) : hasB l (k : Int) = bitL l k := by
  unfold hasB
  rw [decide_eq_true (by omega), Int.toNat_natCast, Bool.true_and]
end Go.Proofs.YtickneafppbegaaDoor

/- The contracts of BitsList and BitsCount, as the program has them and as their model has them. -/
namespace Go.Proofs.YtickneafppbegaaDoor
open Go.ChangeShapes Go.WideShapes Go.ChangeAt Go.RowKit

theorem i64info : (Tryd.prog.info? 3).map (fun i => (i.zero, i.size, i.bytes)) = some (some (.int .i64 0), 1, 8) := by kernel_rfl

/-- The call returns a new row of ints that reads as l; nothing that was there has turned. -/
def FreshI (w : World) (l : List Int) (e : Ending) (w' : World) : Prop :=
  ∃ u, e = .returned u ∧ OwnI 3 w' w.heap.size u l ∧ Below w.heap.size w w'

/-- What has been listed after k rounds. -/
def listZ (l : List UInt8) (k : Nat) : List Int := (listTo l k).map fun (i : Nat) => (i : Int)
theorem listZ_zero (l : List UInt8) : listZ l 0 = [] := rfl
theorem listZ_full (l : List UInt8) : listZ l (8 * l.length) = listI l := rfl
theorem listZ_yes {l : List UInt8} {k : Nat} (h : bitL l k = true) : listZ l (k + 1) = listZ l k ++ [(k : Int)] := by
  unfold listZ
  rw [listTo_succ, h]
  simp
theorem listZ_no {l : List UInt8} {k : Nat} (h : bitL l k = false) : listZ l (k + 1) = listZ l k := by
  unfold listZ
  rw [listTo_succ, h]
  simp
theorem listZ_len (l : List UInt8) (k : Nat) : (listZ l k).length ≤ k := by
  unfold listZ
  rw [List.length_map]
  exact listTo_len l k

theorem slI_slice {w : World} {B : Nat} {v : Value} {l : List Int} (h : SlI w B v l) : ∃ A c, v = .slice A l.length c ∧ l.length ≤ c ∧ c ≤ maxLen := by
  obtain ⟨A, c, e, h1, h2, _⟩ := h
  exact ⟨A, c, e, h1, h2⟩
/-! The same, as a law's walk takes them. -/
theorem Calls.belowQ {f : Nat} {args : Array Value} {w : World} {x : Value} (h : Calls Tryd.prog f args w (Quiet x w)) : Calls Tryd.prog f args w fun e w' => e = .returned x ∧ Below w.heap.size w w' :=
  h.mono fun e w' ⟨h1, n, h2⟩ => ⟨h1, by subst h2; exact below_drewN (Below.refl _ _) n⟩
theorem Calls.belowE {f : Nat} {args : Array Value} {w : World} {x : Value} (h : Calls Tryd.prog f args w fun e w' => e = .returned x ∧ w = w') : Calls Tryd.prog f args w fun e w' => e = .returned x ∧ Below w.heap.size w w' :=
  h.mono fun e w' ⟨h1, h2⟩ => ⟨h1, by subst h2; exact Below.refl _ _⟩
end Go.Proofs.YtickneafppbegaaDoor
