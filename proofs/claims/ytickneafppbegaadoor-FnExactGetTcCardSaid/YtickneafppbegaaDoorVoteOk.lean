/- VoteOk and VoteSame, of the program and of its model. -/
import Derived.Test.YtickneafppbegaaDoorVote
import Derived.Test.YtickneafppbegaaDoorLimits
namespace Go.Proofs.YtickneafppbegaaDoor
open Go.ChangeShapes Go.WideShapes Go.ChangeAt Go.RowKit
set_option linter.unusedSimpArgs false

/-- Whether a row is a hash. -/
def hashLB (l : List UInt8) : Bool := ((l.length : Int) == 32)
theorem hashLB_len {l : List UInt8} (h : hashLB l = true) : l.length = 32 := by
  unfold hashLB at h
  have := eq_of_beq h
  omega
/-- Whether a vote is valid under limits. -/
def voteB (a b c d e x y z : Int) (l k : List UInt8) : Bool := limB a b c d e && (isNumB x && (isNumB y && (hashLB l && (isIn z a && hashLB k))))

/-- Whether two votes are the same. -/
def sameVB (x y z : Int) (l k : List UInt8) (x' y' z' : Int) (l' k' : List UInt8) : Bool := (x == x') && ((y == y') && ((l == l') && ((z == z') && (k == k'))))

end Go.Proofs.YtickneafppbegaaDoor
