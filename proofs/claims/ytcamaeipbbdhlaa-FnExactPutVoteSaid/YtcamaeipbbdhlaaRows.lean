/-
  No cell of these rows narrows 'for every input' (looked for: loops, veiled, ifaces, maps, wideKeys, modest, calm, conditions, laid).
  DERIVED. THE GIVEN ROWS OF THIS SEAT. 3 by the template 'for every input the law returns true; each argument reads behind the call as it read before'; 0 by the template 'total and deterministic' (their statements: YtcamaeipbbdhlaaTotals.lean).
  GIVEN WITH THE SEED: the statements are not yours to turn. If you find one false, say at which input.
  Laid BY PROGRAM, IN A SANDBOX (cutbox-rows.mjs): the forced cells as the released guide's own fill.sh prints them over the translation 764ec88b37b2041f… (all of the seat's roots in one cut). By AI agents, Wed Nov 11 2026. No macro, syntax, notation, axiom, sorry.
-/
import Derived.Test.YtcamaeipbbdhlaaChecked
import GoSem.Claim
import GoSem.ClaimJoined
import GoSem.ClaimMapViews
import Derived.JoinedTies
import Derived.KernelRfl
namespace Go.Proofs.Ytcamaeipbbdhlaa
/- THE CELL 'sum', in the pinned program and in every row, IS THE sha256 OF THE DUMP (.gsa) THAT YtcamaeipbbdhlaaProg.lean LOADS. Nothing in Lean hashes anything: it is a label: what it is worth is what the hold of that sum in a sandbox is worth. -/
noncomputable def Try.pinned : Pinned := { name := "ytcamaeipbbdhlaa", sum := "764ec88b37b2041f47fb174e04aa62250c4b4650ba8660298bd80cb282869e25", checked := Try.checked }
namespace Rows
def none {H : Type} : Left H := { results := [], args := [] }

/-- 'laws.FnExactVoteOk': WHATEVER THE INPUT: true; the input reads as it did. -/
def fnExactVoteOkSpec : ChangeSpec := { name := "fnExactVoteOk", fn := fun _ => fun
  | [d1, d2] => { results := [.lit (.bool true)], args := [d1, d2] }
  | _ => none }
def fnExactVoteOkRow : OpenClaim := { program := "ytcamaeipbbdhlaa", sum := "764ec88b37b2041f47fb174e04aa62250c4b4650ba8660298bd80cb282869e25", func := "loop.example/g00790/laws.FnExactVoteOk", spec := "fnExactVoteOk", apart := false }
def FnExactVoteOkSaid : Prop := fnExactVoteOkRow.holds Try.pinned (OpenSpec.ofChange fnExactVoteOkSpec)

/-- ITS FALSE NEIGHBOUR: 'it returns false'. Refute it at one input. -/
def fnExactVoteOkWrong : ChangeSpec := { name := "fnExactVoteOk", fn := fun _ => fun
  | [d1, d2] => { results := [.lit (.bool false)], args := [d1, d2] }
  | _ => none }
def FnExactVoteOkWrongFalsely : Prop := fnExactVoteOkRow.holds Try.pinned (OpenSpec.ofChange fnExactVoteOkWrong)

/-- 'laws.FnExactVoteSame': WHATEVER THE INPUT: true; the input reads as it did. -/
def fnExactVoteSameSpec : ChangeSpec := { name := "fnExactVoteSame", fn := fun _ => fun
  | [d1, d2] => { results := [.lit (.bool true)], args := [d1, d2] }
  | _ => none }
def fnExactVoteSameRow : OpenClaim := { program := "ytcamaeipbbdhlaa", sum := "764ec88b37b2041f47fb174e04aa62250c4b4650ba8660298bd80cb282869e25", func := "loop.example/g00790/laws.FnExactVoteSame", spec := "fnExactVoteSame", apart := false }
def FnExactVoteSameSaid : Prop := fnExactVoteSameRow.holds Try.pinned (OpenSpec.ofChange fnExactVoteSameSpec)

/-- ITS FALSE NEIGHBOUR: 'it returns false'. Refute it at one input. -/
def fnExactVoteSameWrong : ChangeSpec := { name := "fnExactVoteSame", fn := fun _ => fun
  | [d1, d2] => { results := [.lit (.bool false)], args := [d1, d2] }
  | _ => none }
def FnExactVoteSameWrongFalsely : Prop := fnExactVoteSameRow.holds Try.pinned (OpenSpec.ofChange fnExactVoteSameWrong)

/-- 'laws.FnExactPutVote': WHATEVER THE INPUT: true; the input reads as it did. -/
def fnExactPutVoteSpec : ChangeSpec := { name := "fnExactPutVote", fn := fun _ => fun
  | [d1, d2, d3] => { results := [.lit (.bool true)], args := [d1, d2, d3] }
  | _ => none }
def fnExactPutVoteRow : OpenClaim := { program := "ytcamaeipbbdhlaa", sum := "764ec88b37b2041f47fb174e04aa62250c4b4650ba8660298bd80cb282869e25", func := "loop.example/g00790/laws.FnExactPutVote", spec := "fnExactPutVote", apart := false }
def FnExactPutVoteSaid : Prop := fnExactPutVoteRow.holds Try.pinned (OpenSpec.ofChange fnExactPutVoteSpec)

/-- ITS FALSE NEIGHBOUR: 'it returns false'. Refute it at one input. -/
def fnExactPutVoteWrong : ChangeSpec := { name := "fnExactPutVote", fn := fun _ => fun
  | [d1, d2, d3] => { results := [.lit (.bool false)], args := [d1, d2, d3] }
  | _ => none }
def FnExactPutVoteWrongFalsely : Prop := fnExactPutVoteRow.holds Try.pinned (OpenSpec.ofChange fnExactPutVoteWrong)

/- THE SECOND FORM. 'bulk': how many values and letters a reading holds, each counted each time it is reached (what is shared counts as often as it is met; a slice's spare places count too). A statement '..UptoSaid' is the law's where the arguments, and the package variables that the reading takes, are together of bulk at most 1048576: NARROWER than '..Said'. Prove '..Said' where nothing that the law and all that it calls make is longer than what came in: it says more and counts as full. Else prove '..UptoSaid'. A law counts once. -/
mutual
def uptoBulk {H : Type} : DataW H → Nat
  | .lit (.string bytes) => bytes.length + 1
  | .lit _ => 1
  | .nil => 1
  | .ptr d => uptoBulk d + 1
  | .slice elems spare => uptoBulkAll elems + uptoBulkAll spare + 1
  | .agg parts => uptoBulkAll parts + 1
  | .iface _ d => uptoBulk d + 1
  | .map entries => uptoBulkEntries entries + 1
  | .held _ => 1
def uptoBulkAll {H : Type} : List (DataW H) → Nat
  | [] => 0
  | d :: r => uptoBulk d + uptoBulkAll r
def uptoBulkEntries {H : Type} : List (Lit × DataW H) → Nat
  | [] => 0
  | x :: r => uptoBulkEntry x + uptoBulkEntries r
def uptoBulkEntry {H : Type} : Lit × DataW H → Nat
  | (.string bytes, d) => bytes.length + uptoBulk d + 1
  | (_, d) => uptoBulk d + 1
 end
def uptoSmall : (H : Type) → List (DataW H) → Bool := fun _ ds => decide (uptoBulkAll ds ≤ 1048576)
def OpenSpec.upto (s : _root_.Go.ChangeSpec) : _root_.Go.OpenSpec := { _root_.Go.OpenSpec.ofChange s with cond := some uptoSmall }

/-- 'laws.FnExactVoteOk', WHERE WHAT IT READS IS OF BULK AT MOST 1048576: true; the input reads as it did. -/
def fnExactVoteOkUptoRow : OpenClaim := { program := "ytcamaeipbbdhlaa", sum := "764ec88b37b2041f47fb174e04aa62250c4b4650ba8660298bd80cb282869e25", func := "loop.example/g00790/laws.FnExactVoteOk", spec := "fnExactVoteOk", apart := false, narrowed := true }
def FnExactVoteOkUptoSaid : Prop := fnExactVoteOkUptoRow.holds Try.pinned (OpenSpec.upto fnExactVoteOkSpec)

/-- 'laws.FnExactVoteSame', WHERE WHAT IT READS IS OF BULK AT MOST 1048576: true; the input reads as it did. -/
def fnExactVoteSameUptoRow : OpenClaim := { program := "ytcamaeipbbdhlaa", sum := "764ec88b37b2041f47fb174e04aa62250c4b4650ba8660298bd80cb282869e25", func := "loop.example/g00790/laws.FnExactVoteSame", spec := "fnExactVoteSame", apart := false, narrowed := true }
def FnExactVoteSameUptoSaid : Prop := fnExactVoteSameUptoRow.holds Try.pinned (OpenSpec.upto fnExactVoteSameSpec)

/-- 'laws.FnExactPutVote', WHERE WHAT IT READS IS OF BULK AT MOST 1048576: true; the input reads as it did. -/
def fnExactPutVoteUptoRow : OpenClaim := { program := "ytcamaeipbbdhlaa", sum := "764ec88b37b2041f47fb174e04aa62250c4b4650ba8660298bd80cb282869e25", func := "loop.example/g00790/laws.FnExactPutVote", spec := "fnExactPutVote", apart := false, narrowed := true }
def FnExactPutVoteUptoSaid : Prop := fnExactPutVoteUptoRow.holds Try.pinned (OpenSpec.upto fnExactPutVoteSpec)

end Rows
end Go.Proofs.Ytcamaeipbbdhlaa
