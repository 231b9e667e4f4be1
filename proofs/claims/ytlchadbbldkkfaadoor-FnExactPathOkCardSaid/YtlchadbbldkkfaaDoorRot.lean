/- The contract of the rotation, as the program has it, and of TurnRight. -/
import Derived.Test.YtlchadbbldkkfaaDoorSha
import Derived.Laws.ShiftsVar
import Derived.Laws.ShiftsVarLaws
namespace Go.Proofs.YtlchadbbldkkfaaDoor
open Go.ChangeShapes Go.WideShapes Go.ChangeAt Go.RowKit

/-- The call returns x and turns nothing. -/
def Same (x : Value) (w : World) (e : Ending) (w' : World) : Prop := e = .returned x ∧ w = w'
/-- The count of the shift to the left. -/
theorem rot_count : ∀ n : Fin 32, bits .and .u64 (IntKind.u64.wrap (-((n.val : Nat) : Int))) 31 = (((32 - n.val) % 32 : Nat) : Int) := by decide +kernel
theorem turn_u32 (x n s : Nat) (hx : x < 4294967296) (hn : n ≤ 31) (hs : s = (32 - n) % 32) :
    bits .or .u32 ((x : Int) * 2 ^ s % 4294967296) ((x : Int) / 2 ^ (32 - s)) = (turnR x n : Int) := by
  have e1 : (x : Int) * 2 ^ s % 4294967296 = ((x * 2 ^ s % 4294967296 : Nat) : Int) := by simp
  have e2 : (x : Int) / 2 ^ (32 - s) = ((x / 2 ^ (32 - s) : Nat) : Int) := by simp
  rw [e1, e2, u32_or_nat _ _ (Nat.mod_lt _ (by decide)) (Nat.lt_of_le_of_lt (Nat.div_le_self _ _) hx)]
  congr 1
  unfold turnR
  rw [show (4294967296 : Nat) = 2 ^ 32 from rfl, Nat.or_mod_two_pow]
  rcases Nat.eq_zero_or_pos n with h0 | h0
  · subst h0
    obtain rfl : s = 0 := by omega
    have hd : x / 2 ^ 32 = 0 := Nat.div_eq_of_lt hx
    simp [hd, Nat.mod_eq_of_lt hx]
  · have h1 : s = 32 - n := by omega
    have h2 : 32 - s = n := by omega
    rw [h2, h1, Nat.or_comm]
    congr 1
    exact (Nat.mod_eq_of_lt (Nat.lt_of_le_of_lt (Nat.div_le_self _ _) hx)).symm
theorem rotateLeft32_any (x n : Nat) (w : World) (hx : x < 4294967296) (hn : n ≤ 31) :
    Calls Tryd.prog 103 #[.int .u32 (x : Int), .int .i64 (-(n : Int))] w (Same (.int .u32 (turnR x n : Int)) w) := by
  obtain ⟨s, hsn⟩ : ∃ s, s = (32 - n) % 32 := ⟨_, rfl⟩
  have hs := rot_count ⟨n, by omega⟩
  have ht := turn_u32 x n s hx hn hsn
  rw [← hsn] at hs
  have hs31 : s ≤ 31 := by omega
  clear hsn
  generalize turnR x n = r at ht ⊢
  dsimp only at hs
  go_enter Tryd.func103, Tryd.ntmps103
  go_wp2
  go_ret
  exact ⟨by rw [← ht]; rfl, rfl⟩
theorem rotr_any (x n : Nat) (w : World) (hx : x < 4294967296) (hn : n ≤ 31) :
    Calls Tryd.prog 102 #[.int .u32 (x : Int), .int .i64 (n : Int)] w (Same (.int .u32 (turnR x n : Int)) w) := by
  go_enter Tryd.func102, Tryd.ntmps102
  go_wp2_with fail
  refine (rotateLeft32_any x n _ hx hn).mono ?_
  rintro e _ ⟨rfl, rfl⟩
  go_wp2_with fail
  go_ret
  exact ⟨rfl, rfl⟩
end Go.Proofs.YtlchadbbldkkfaaDoor
