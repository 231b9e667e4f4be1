/- VoteOk and VoteSame, of the program and of its model. -/
import Derived.Test.YtopbalemfljphaaVote
import Derived.Test.YtopbalemfljphaaLimits
namespace Go.Proofs.Ytopbalemfljphaa
open Go.ChangeShapes Go.WideShapes Go.ChangeAt Go.RowKit
set_option linter.unusedSimpArgs false

theorem l01Num_any (n : Int) (w : World) :
    Calls Try.prog 68 #[.int .i64 n] w fun e w' => e = .returned (.bool (isNumB n)) ∧ w = w' := by
  by_cases h : 0 ≤ n ∧ n ≤ 1152921504606846975
  · rw [isNumB_yes h.1 h.2]; exact l01Num_yes n w h.1 h.2
  · rw [isNumB_no h]; exact l01Num_no n w h
theorem isNum_any (n : Int) (w : World) :
    Calls Try.prog 73 #[.int .i64 n] w fun e w' => e = .returned (.bool (isNumB n)) ∧ w = w' := by
  by_cases h : 0 ≤ n ∧ n ≤ 1152921504606846975
  · rw [isNumB_yes h.1 h.2]; exact isNum_yes n w h.1 h.2
  · rw [isNumB_no h]; exact isNum_no n w h

/-- Whether a row is a hash. -/
def hashLB (l : List UInt8) : Bool := ((l.length : Int) == 32)
theorem hashLB_len {l : List UInt8} (h : hashLB l = true) : l.length = 32 := by
  unfold hashLB at h
  have := eq_of_beq h
  omega
/-- Whether a vote is valid under limits. -/
def voteB (a b c d e x y z : Int) (l k : List UInt8) : Bool := limB a b c d e && (isNumB x && (isNumB y && (hashLB l && (isIn z a && hashLB k))))

/-- Whether two votes are the same. -/
def sameVB (x y z : Int) (l k : List UInt8) (x' y' z' : Int) (l' k' : List UInt8) : Bool := (x == x') && ((y == y') && ((l == l') && ((z == z') && (k == k'))))

end Go.Proofs.Ytopbalemfljphaa
