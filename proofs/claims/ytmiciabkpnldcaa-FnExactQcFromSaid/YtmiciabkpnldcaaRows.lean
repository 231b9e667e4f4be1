/-
  No cell of these rows narrows 'for every input' (looked for: loops, veiled, ifaces, maps, wideKeys, modest, calm, conditions, laid).
  DERIVED. THE GIVEN ROWS OF THIS SEAT. 5 by the template 'for every input the law returns true; each argument reads behind the call as it read before'; 0 by the template 'total and deterministic' (their statements: YtmiciabkpnldcaaTotals.lean).
  GIVEN WITH THE SEED: the statements are not yours to turn. If you find one false, say at which input.
  Laid BY PROGRAM, IN A SANDBOX (cutbox-rows.mjs): the forced cells as the released guide's own fill.sh prints them over the translation dd578e6df7e6dc7d… (all of the seat's roots in one cut). By AI agents, Wed Nov 11 2026. No macro, syntax, notation, axiom, sorry.
-/
import Derived.Test.YtmiciabkpnldcaaChecked
import GoSem.Claim
import GoSem.ClaimJoined
import GoSem.ClaimMapViews
import Derived.JoinedTies
import Derived.KernelRfl
namespace Go.Proofs.Ytmiciabkpnldcaa
/- THE CELL 'sum', in the pinned program and in every row, IS THE sha256 OF THE DUMP (.gsa) THAT YtmiciabkpnldcaaProg.lean LOADS. Nothing in Lean hashes anything: it is a label: what it is worth is what the hold of that sum in a sandbox is worth. -/
noncomputable def Try.pinned : Pinned := { name := "ytmiciabkpnldcaa", sum := "dd578e6df7e6dc7d26fd5b0072badd7a8b3b0e3691cf12b6623f71449438febb", checked := Try.checked }
namespace Rows
def none {H : Type} : Left H := { results := [], args := [] }

/-- 'laws.FnExactQcOk': WHATEVER THE INPUT: true; the input reads as it did. -/
def fnExactQcOkSpec : ChangeSpec := { name := "fnExactQcOk", fn := fun _ => fun
  | [d1, d2] => { results := [.lit (.bool true)], args := [d1, d2] }
  | _ => none }
def fnExactQcOkRow : OpenClaim := { program := "ytmiciabkpnldcaa", sum := "dd578e6df7e6dc7d26fd5b0072badd7a8b3b0e3691cf12b6623f71449438febb", func := "loop.example/g00790/laws.FnExactQcOk", spec := "fnExactQcOk", apart := false }
def FnExactQcOkSaid : Prop := fnExactQcOkRow.holds Try.pinned (OpenSpec.ofChange fnExactQcOkSpec)

/-- ITS FALSE NEIGHBOUR: 'it returns false'. Refute it at one input. -/
def fnExactQcOkWrong : ChangeSpec := { name := "fnExactQcOk", fn := fun _ => fun
  | [d1, d2] => { results := [.lit (.bool false)], args := [d1, d2] }
  | _ => none }
def FnExactQcOkWrongFalsely : Prop := fnExactQcOkRow.holds Try.pinned (OpenSpec.ofChange fnExactQcOkWrong)

/-- 'laws.FnExactQcSame': WHATEVER THE INPUT: true; the input reads as it did. -/
def fnExactQcSameSpec : ChangeSpec := { name := "fnExactQcSame", fn := fun _ => fun
  | [d1, d2] => { results := [.lit (.bool true)], args := [d1, d2] }
  | _ => none }
def fnExactQcSameRow : OpenClaim := { program := "ytmiciabkpnldcaa", sum := "dd578e6df7e6dc7d26fd5b0072badd7a8b3b0e3691cf12b6623f71449438febb", func := "loop.example/g00790/laws.FnExactQcSame", spec := "fnExactQcSame", unfollowed := true, recurses := true, apart := false }
def FnExactQcSameSaid : Prop := fnExactQcSameRow.holds Try.pinned (OpenSpec.ofChange fnExactQcSameSpec)

/-- ITS FALSE NEIGHBOUR: 'it returns false'. Refute it at one input. -/
def fnExactQcSameWrong : ChangeSpec := { name := "fnExactQcSame", fn := fun _ => fun
  | [d1, d2] => { results := [.lit (.bool false)], args := [d1, d2] }
  | _ => none }
def FnExactQcSameWrongFalsely : Prop := fnExactQcSameRow.holds Try.pinned (OpenSpec.ofChange fnExactQcSameWrong)

/-- 'laws.FnExactPutQc': WHATEVER THE INPUT: true; the input reads as it did. -/
def fnExactPutQcSpec : ChangeSpec := { name := "fnExactPutQc", fn := fun _ => fun
  | [d1, d2, d3] => { results := [.lit (.bool true)], args := [d1, d2, d3] }
  | _ => none }
def fnExactPutQcRow : OpenClaim := { program := "ytmiciabkpnldcaa", sum := "dd578e6df7e6dc7d26fd5b0072badd7a8b3b0e3691cf12b6623f71449438febb", func := "loop.example/g00790/laws.FnExactPutQc", spec := "fnExactPutQc", apart := false }
def FnExactPutQcSaid : Prop := fnExactPutQcRow.holds Try.pinned (OpenSpec.ofChange fnExactPutQcSpec)

/-- ITS FALSE NEIGHBOUR: 'it returns false'. Refute it at one input. -/
def fnExactPutQcWrong : ChangeSpec := { name := "fnExactPutQc", fn := fun _ => fun
  | [d1, d2, d3] => { results := [.lit (.bool false)], args := [d1, d2, d3] }
  | _ => none }
def FnExactPutQcWrongFalsely : Prop := fnExactPutQcRow.holds Try.pinned (OpenSpec.ofChange fnExactPutQcWrong)

/-- 'laws.FnExactQcVotes': WHATEVER THE INPUT: true; the input reads as it did. -/
def fnExactQcVotesSpec : ChangeSpec := { name := "fnExactQcVotes", fn := fun _ => fun
  | [d] => { results := [.lit (.bool true)], args := [d] }
  | _ => none }
def fnExactQcVotesRow : OpenClaim := { program := "ytmiciabkpnldcaa", sum := "dd578e6df7e6dc7d26fd5b0072badd7a8b3b0e3691cf12b6623f71449438febb", func := "loop.example/g00790/laws.FnExactQcVotes", spec := "fnExactQcVotes", apart := false }
def FnExactQcVotesSaid : Prop := fnExactQcVotesRow.holds Try.pinned (OpenSpec.ofChange fnExactQcVotesSpec)

/-- ITS FALSE NEIGHBOUR: 'it returns false'. Refute it at one input. -/
def fnExactQcVotesWrong : ChangeSpec := { name := "fnExactQcVotes", fn := fun _ => fun
  | [d] => { results := [.lit (.bool false)], args := [d] }
  | _ => none }
def FnExactQcVotesWrongFalsely : Prop := fnExactQcVotesRow.holds Try.pinned (OpenSpec.ofChange fnExactQcVotesWrong)

/-- 'laws.FnExactQcFrom': WHATEVER THE INPUT: true; the input reads as it did. -/
def fnExactQcFromSpec : ChangeSpec := { name := "fnExactQcFrom", fn := fun _ => fun
  | [d1, d2] => { results := [.lit (.bool true)], args := [d1, d2] }
  | _ => none }
def fnExactQcFromRow : OpenClaim := { program := "ytmiciabkpnldcaa", sum := "dd578e6df7e6dc7d26fd5b0072badd7a8b3b0e3691cf12b6623f71449438febb", func := "loop.example/g00790/laws.FnExactQcFrom", spec := "fnExactQcFrom", unfollowed := true, recurses := true, apart := false }
def FnExactQcFromSaid : Prop := fnExactQcFromRow.holds Try.pinned (OpenSpec.ofChange fnExactQcFromSpec)

/-- ITS FALSE NEIGHBOUR: 'it returns false'. Refute it at one input. -/
def fnExactQcFromWrong : ChangeSpec := { name := "fnExactQcFrom", fn := fun _ => fun
  | [d1, d2] => { results := [.lit (.bool false)], args := [d1, d2] }
  | _ => none }
def FnExactQcFromWrongFalsely : Prop := fnExactQcFromRow.holds Try.pinned (OpenSpec.ofChange fnExactQcFromWrong)

/- THE SECOND FORM. 'bulk': how many values and letters a reading holds, each counted each time it is reached (what is shared counts as often as it is met; a slice's spare places count too). A statement '..UptoSaid' is the law's where the arguments, and the package variables that the reading takes, are together of bulk at most 1048576: NARROWER than '..Said'. Prove '..Said' where nothing that the law and all that it calls make is longer than what came in: it says more and counts as full. Else prove '..UptoSaid'. A law counts once. -/
mutual
def uptoBulk {H : Type} : DataW H → Nat
  | .lit (.string bytes) => bytes.length + 1
  | .lit _ => 1
  | .nil => 1
  | .ptr d => uptoBulk d + 1
  | .slice elems spare => uptoBulkAll elems + uptoBulkAll spare + 1
  | .agg parts => uptoBulkAll parts + 1
  | .iface _ d => uptoBulk d + 1
  | .map entries => uptoBulkEntries entries + 1
  | .held _ => 1
def uptoBulkAll {H : Type} : List (DataW H) → Nat
  | [] => 0
  | d :: r => uptoBulk d + uptoBulkAll r
def uptoBulkEntries {H : Type} : List (Lit × DataW H) → Nat
  | [] => 0
  | x :: r => uptoBulkEntry x + uptoBulkEntries r
def uptoBulkEntry {H : Type} : Lit × DataW H → Nat
  | (.string bytes, d) => bytes.length + uptoBulk d + 1
  | (_, d) => uptoBulk d + 1
 end
def uptoSmall : (H : Type) → List (DataW H) → Bool := fun _ ds => decide (uptoBulkAll ds ≤ 1048576)
def OpenSpec.upto (s : _root_.Go.ChangeSpec) : _root_.Go.OpenSpec := { _root_.Go.OpenSpec.ofChange s with cond := some uptoSmall }

/-- 'laws.FnExactQcOk', WHERE WHAT IT READS IS OF BULK AT MOST 1048576: true; the input reads as it did. -/
def fnExactQcOkUptoRow : OpenClaim := { program := "ytmiciabkpnldcaa", sum := "dd578e6df7e6dc7d26fd5b0072badd7a8b3b0e3691cf12b6623f71449438febb", func := "loop.example/g00790/laws.FnExactQcOk", spec := "fnExactQcOk", apart := false, narrowed := true }
def FnExactQcOkUptoSaid : Prop := fnExactQcOkUptoRow.holds Try.pinned (OpenSpec.upto fnExactQcOkSpec)

/-- 'laws.FnExactQcSame', WHERE WHAT IT READS IS OF BULK AT MOST 1048576: true; the input reads as it did. -/
def fnExactQcSameUptoRow : OpenClaim := { program := "ytmiciabkpnldcaa", sum := "dd578e6df7e6dc7d26fd5b0072badd7a8b3b0e3691cf12b6623f71449438febb", func := "loop.example/g00790/laws.FnExactQcSame", spec := "fnExactQcSame", unfollowed := true, recurses := true, apart := false, narrowed := true }
def FnExactQcSameUptoSaid : Prop := fnExactQcSameUptoRow.holds Try.pinned (OpenSpec.upto fnExactQcSameSpec)

/-- 'laws.FnExactPutQc', WHERE WHAT IT READS IS OF BULK AT MOST 1048576: true; the input reads as it did. -/
def fnExactPutQcUptoRow : OpenClaim := { program := "ytmiciabkpnldcaa", sum := "dd578e6df7e6dc7d26fd5b0072badd7a8b3b0e3691cf12b6623f71449438febb", func := "loop.example/g00790/laws.FnExactPutQc", spec := "fnExactPutQc", apart := false, narrowed := true }
def FnExactPutQcUptoSaid : Prop := fnExactPutQcUptoRow.holds Try.pinned (OpenSpec.upto fnExactPutQcSpec)

/-- 'laws.FnExactQcVotes', WHERE WHAT IT READS IS OF BULK AT MOST 1048576: true; the input reads as it did. -/
def fnExactQcVotesUptoRow : OpenClaim := { program := "ytmiciabkpnldcaa", sum := "dd578e6df7e6dc7d26fd5b0072badd7a8b3b0e3691cf12b6623f71449438febb", func := "loop.example/g00790/laws.FnExactQcVotes", spec := "fnExactQcVotes", apart := false, narrowed := true }
def FnExactQcVotesUptoSaid : Prop := fnExactQcVotesUptoRow.holds Try.pinned (OpenSpec.upto fnExactQcVotesSpec)

/-- 'laws.FnExactQcFrom', WHERE WHAT IT READS IS OF BULK AT MOST 1048576: true; the input reads as it did. -/
def fnExactQcFromUptoRow : OpenClaim := { program := "ytmiciabkpnldcaa", sum := "dd578e6df7e6dc7d26fd5b0072badd7a8b3b0e3691cf12b6623f71449438febb", func := "loop.example/g00790/laws.FnExactQcFrom", spec := "fnExactQcFrom", unfollowed := true, recurses := true, apart := false, narrowed := true }
def FnExactQcFromUptoSaid : Prop := fnExactQcFromUptoRow.holds Try.pinned (OpenSpec.upto fnExactQcFromSpec)

end Rows
end Go.Proofs.Ytmiciabkpnldcaa
