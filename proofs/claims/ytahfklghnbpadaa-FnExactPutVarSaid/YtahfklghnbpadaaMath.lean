/- Plain functions on lists of bytes: what the encodings of numbers are. No program is named here. -/
import Derived.Lib.Hide
namespace Go.Proofs.Ytahfklghnbpadaa

/-- The bytes of a varint. -/
def varL (n : Nat) : List UInt8 := if n < 128 then [UInt8.ofNat n] else UInt8.ofNat (n % 128 + 128) :: varL (n / 128)
termination_by n
decreasing_by omega
theorem varL_small {n : Nat} (h : n < 128) : varL n = [UInt8.ofNat n] := by rw [varL, if_pos h]
theorem varL_big {n : Nat} (h : 128 ≤ n) : varL n = UInt8.ofNat (n % 128 + 128) :: varL (n / 128) := by rw [varL, if_neg (by omega)]
theorem varL_pos (n : Nat) : 0 < (varL n).length := by
  rw [varL]
  split <;> simp
theorem varL_le (k : Nat) : ∀ n, n < 128 ^ (k + 1) → (varL n).length ≤ k + 1 := by
  induction k with
  | zero => intro n h; rw [varL_small (by omega)]; simp
  | succ k ih =>
    intro n h
    by_cases hs : n < 128
    · rw [varL_small hs]; simp
    · rw [varL_big (by omega)]
      have := ih (n / 128) (by rw [Nat.pow_succ] at h; omega)
      simp; omega
theorem varL_nine (n : Nat) (h : n ≤ 1152921504606846975) : (varL n).length ≤ 9 := varL_le 8 n (by omega)

/-- What PutVar answers: the bytes, and whether n is a number. -/
def putVarL (l : List UInt8) (n : Int) : List UInt8 := if 0 ≤ n ∧ n ≤ 1152921504606846975 then l ++ varL n.toNat else []
def isNumB (n : Int) : Bool := decide (0 ≤ n ∧ n ≤ 1152921504606846975)
theorem isNumB_yes {n : Int} (h0 : 0 ≤ n) (h1 : n ≤ 1152921504606846975) : isNumB n = true := by simp [isNumB, h0, h1]
theorem isNumB_no {n : Int} (h : ¬ (0 ≤ n ∧ n ≤ 1152921504606846975)) : isNumB n = false := by simpa [isNumB] using h
theorem putVarL_yes (l : List UInt8) {n : Nat} (h1 : n ≤ 1152921504606846975) : putVarL l (n : Int) = l ++ varL n := by
  rw [putVarL, if_pos ⟨by omega, by omega⟩, Int.toNat_natCast]
theorem putVarL_no (l : List UInt8) {n : Int} (h : ¬ (0 ≤ n ∧ n ≤ 1152921504606846975)) : putVarL l n = [] := by rw [putVarL, if_neg h]
theorem putVarL_len (l : List UInt8) (n : Int) : (putVarL l n).length ≤ l.length + 9 := by
  unfold putVarL
  split
  · rename_i h
    have := varL_nine n.toNat (by omega)
    simp; omega
  · simp
end Go.Proofs.Ytahfklghnbpadaa
