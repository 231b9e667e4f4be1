/- The contracts of the functions that write numbers: PutVar, VarSize and what they call, as the program has them and as their model has them. -/
import Derived.Test.YtlchadbbldkkfaaBase
import Derived.Test.YtlchadbbldkkfaaMath
namespace Go.Proofs.Ytlchadbbldkkfaa
open Go.ChangeShapes Go.WideShapes Go.ChangeAt Go.RowKit

/-- The call returns a new row that reads as l, and x beside it; nothing that was there has turned. -/
def Fresh2 (w : World) (l : List UInt8) (x : Value) (e : Ending) (w' : World) : Prop :=
  ∃ u, e = .returned (.tuple #[u, x]) ∧ Own 5 w' w.heap.size u l ∧ Below w.heap.size w w'

/-- spec.l01In. -/
theorem l01In_yes (n a b : Int) (w : World) (h0 : a ≤ n) (h1 : n ≤ b) :
    Calls Try.prog 10 #[.int .i64 n, .int .i64 a, .int .i64 b] w fun e w' => e = .returned (.bool true) ∧ w = w' := by
  go_enter Try.func10, Try.ntmps10
  go_wp2
  go_ret
  exact ⟨rfl, rfl⟩
theorem l01In_no (n a b : Int) (w : World) (h : ¬ (a ≤ n ∧ n ≤ b)) :
    Calls Try.prog 10 #[.int .i64 n, .int .i64 a, .int .i64 b] w fun e w' => e = .returned (.bool false) ∧ w = w' := by
  by_cases h0 : a ≤ n
  · have h1 : b < n := by omega
    clear h
    go_enter Try.func10, Try.ntmps10
    go_wp2
    go_ret
    exact ⟨by simp; omega, rfl⟩
  · have h1 : n < a := by omega
    clear h h0
    go_enter Try.func10, Try.ntmps10
    go_wp2
    go_ret
    exact ⟨rfl, rfl⟩
/-- How many bytes PutVar writes. -/
def sizeV (n : Int) : Nat := (putVarL [] n).length
end Go.Proofs.Ytlchadbbldkkfaa
