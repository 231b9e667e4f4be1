/-
  No cell of these rows narrows 'for every input' (looked for: loops, veiled, ifaces, maps, wideKeys, modest, calm, conditions, laid).
  DERIVED. THE GIVEN ROWS OF THIS SEAT. 5 by the template 'for every input the law returns true; each argument reads behind the call as it read before'; 0 by the template 'total and deterministic' (their statements: YtickneafppbegaaTotals.lean).
  GIVEN WITH THE SEED: the statements are not yours to turn. If you find one false, say at which input.
  Laid BY PROGRAM, IN A SANDBOX (cutbox-rows.mjs): the forced cells as the released guide's own fill.sh prints them over the translation a5175a7c873cc8bd… (all of the seat's roots in one cut). By AI agents, Wed Nov 11 2026. No macro, syntax, notation, axiom, sorry.
-/
import Derived.Test.YtickneafppbegaaChecked
import GoSem.Claim
import GoSem.ClaimJoined
import GoSem.ClaimMapViews
import Derived.JoinedTies
import Derived.KernelRfl
namespace Go.Proofs.Ytickneafppbegaa
/- THE CELL 'sum', in the pinned program and in every row, IS THE sha256 OF THE DUMP (.gsa) THAT YtickneafppbegaaProg.lean LOADS. Nothing in Lean hashes anything: it is a label: what it is worth is what the hold of that sum in a sandbox is worth. -/
noncomputable def Try.pinned : Pinned := { name := "ytickneafppbegaa", sum := "a5175a7c873cc8bd5865e542beb12f97150c06382b2bbae018c27311de6a93cb", checked := Try.checked }
namespace Rows
def none {H : Type} : Left H := { results := [], args := [] }

/-- 'laws.FnExactTcOk': WHATEVER THE INPUT: true; the input reads as it did. -/
def fnExactTcOkSpec : ChangeSpec := { name := "fnExactTcOk", fn := fun _ => fun
  | [d1, d2] => { results := [.lit (.bool true)], args := [d1, d2] }
  | _ => none }
def fnExactTcOkRow : OpenClaim := { program := "ytickneafppbegaa", sum := "a5175a7c873cc8bd5865e542beb12f97150c06382b2bbae018c27311de6a93cb", func := "loop.example/g00790/laws.FnExactTcOk", spec := "fnExactTcOk", unfollowed := true, recurses := true, apart := false }
def FnExactTcOkSaid : Prop := fnExactTcOkRow.holds Try.pinned (OpenSpec.ofChange fnExactTcOkSpec)

/-- ITS FALSE NEIGHBOUR: 'it returns false'. Refute it at one input. -/
def fnExactTcOkWrong : ChangeSpec := { name := "fnExactTcOk", fn := fun _ => fun
  | [d1, d2] => { results := [.lit (.bool false)], args := [d1, d2] }
  | _ => none }
def FnExactTcOkWrongFalsely : Prop := fnExactTcOkRow.holds Try.pinned (OpenSpec.ofChange fnExactTcOkWrong)

/-- 'laws.FnExactTcSame': WHATEVER THE INPUT: true; the input reads as it did. -/
def fnExactTcSameSpec : ChangeSpec := { name := "fnExactTcSame", fn := fun _ => fun
  | [d1, d2] => { results := [.lit (.bool true)], args := [d1, d2] }
  | _ => none }
def fnExactTcSameRow : OpenClaim := { program := "ytickneafppbegaa", sum := "a5175a7c873cc8bd5865e542beb12f97150c06382b2bbae018c27311de6a93cb", func := "loop.example/g00790/laws.FnExactTcSame", spec := "fnExactTcSame", unfollowed := true, recurses := true, apart := false }
def FnExactTcSameSaid : Prop := fnExactTcSameRow.holds Try.pinned (OpenSpec.ofChange fnExactTcSameSpec)

/-- ITS FALSE NEIGHBOUR: 'it returns false'. Refute it at one input. -/
def fnExactTcSameWrong : ChangeSpec := { name := "fnExactTcSame", fn := fun _ => fun
  | [d1, d2] => { results := [.lit (.bool false)], args := [d1, d2] }
  | _ => none }
def FnExactTcSameWrongFalsely : Prop := fnExactTcSameRow.holds Try.pinned (OpenSpec.ofChange fnExactTcSameWrong)

/-- 'laws.FnExactPutTc': WHATEVER THE INPUT: true; the input reads as it did. -/
def fnExactPutTcSpec : ChangeSpec := { name := "fnExactPutTc", fn := fun _ => fun
  | [d1, d2, d3] => { results := [.lit (.bool true)], args := [d1, d2, d3] }
  | _ => none }
def fnExactPutTcRow : OpenClaim := { program := "ytickneafppbegaa", sum := "a5175a7c873cc8bd5865e542beb12f97150c06382b2bbae018c27311de6a93cb", func := "loop.example/g00790/laws.FnExactPutTc", spec := "fnExactPutTc", unfollowed := true, recurses := true, apart := false }
def FnExactPutTcSaid : Prop := fnExactPutTcRow.holds Try.pinned (OpenSpec.ofChange fnExactPutTcSpec)

/-- ITS FALSE NEIGHBOUR: 'it returns false'. Refute it at one input. -/
def fnExactPutTcWrong : ChangeSpec := { name := "fnExactPutTc", fn := fun _ => fun
  | [d1, d2, d3] => { results := [.lit (.bool false)], args := [d1, d2, d3] }
  | _ => none }
def FnExactPutTcWrongFalsely : Prop := fnExactPutTcRow.holds Try.pinned (OpenSpec.ofChange fnExactPutTcWrong)

/-- 'laws.FnExactTcHigh': WHATEVER THE INPUT: true; the input reads as it did. -/
def fnExactTcHighSpec : ChangeSpec := { name := "fnExactTcHigh", fn := fun _ => fun
  | [d] => { results := [.lit (.bool true)], args := [d] }
  | _ => none }
def fnExactTcHighRow : OpenClaim := { program := "ytickneafppbegaa", sum := "a5175a7c873cc8bd5865e542beb12f97150c06382b2bbae018c27311de6a93cb", func := "loop.example/g00790/laws.FnExactTcHigh", spec := "fnExactTcHigh", apart := false }
def FnExactTcHighSaid : Prop := fnExactTcHighRow.holds Try.pinned (OpenSpec.ofChange fnExactTcHighSpec)

/-- ITS FALSE NEIGHBOUR: 'it returns false'. Refute it at one input. -/
def fnExactTcHighWrong : ChangeSpec := { name := "fnExactTcHigh", fn := fun _ => fun
  | [d] => { results := [.lit (.bool false)], args := [d] }
  | _ => none }
def FnExactTcHighWrongFalsely : Prop := fnExactTcHighRow.holds Try.pinned (OpenSpec.ofChange fnExactTcHighWrong)

/-- 'laws.FnExactTcBits': WHATEVER THE INPUT: true; the input reads as it did. -/
def fnExactTcBitsSpec : ChangeSpec := { name := "fnExactTcBits", fn := fun _ => fun
  | [d1, d2] => { results := [.lit (.bool true)], args := [d1, d2] }
  | _ => none }
def fnExactTcBitsRow : OpenClaim := { program := "ytickneafppbegaa", sum := "a5175a7c873cc8bd5865e542beb12f97150c06382b2bbae018c27311de6a93cb", func := "loop.example/g00790/laws.FnExactTcBits", spec := "fnExactTcBits", unfollowed := true, recurses := true, apart := false }
def FnExactTcBitsSaid : Prop := fnExactTcBitsRow.holds Try.pinned (OpenSpec.ofChange fnExactTcBitsSpec)

/-- ITS FALSE NEIGHBOUR: 'it returns false'. Refute it at one input. -/
def fnExactTcBitsWrong : ChangeSpec := { name := "fnExactTcBits", fn := fun _ => fun
  | [d1, d2] => { results := [.lit (.bool false)], args := [d1, d2] }
  | _ => none }
def FnExactTcBitsWrongFalsely : Prop := fnExactTcBitsRow.holds Try.pinned (OpenSpec.ofChange fnExactTcBitsWrong)

/- THE SECOND FORM. 'bulk': how many values and letters a reading holds, each counted each time it is reached (what is shared counts as often as it is met; a slice's spare places count too). A statement '..UptoSaid' is the law's where the arguments, and the package variables that the reading takes, are together of bulk at most 1048576: NARROWER than '..Said'. Prove '..Said' where nothing that the law and all that it calls make is longer than what came in: it says more and counts as full. Else prove '..UptoSaid'. A law counts once. -/
mutual
def uptoBulk {H : Type} : DataW H → Nat
  | .lit (.string bytes) => bytes.length + 1
  | .lit _ => 1
  | .nil => 1
  | .ptr d => uptoBulk d + 1
  | .slice elems spare => uptoBulkAll elems + uptoBulkAll spare + 1
  | .agg parts => uptoBulkAll parts + 1
  | .iface _ d => uptoBulk d + 1
  | .map entries => uptoBulkEntries entries + 1
  | .held _ => 1
def uptoBulkAll {H : Type} : List (DataW H) → Nat
  | [] => 0
  | d :: r => uptoBulk d + uptoBulkAll r
def uptoBulkEntries {H : Type} : List (Lit × DataW H) → Nat
  | [] => 0
  | x :: r => uptoBulkEntry x + uptoBulkEntries r
def uptoBulkEntry {H : Type} : Lit × DataW H → Nat
  | (.string bytes, d) => bytes.length + uptoBulk d + 1
  | (_, d) => uptoBulk d + 1
 end
def uptoSmall : (H : Type) → List (DataW H) → Bool := fun _ ds => decide (uptoBulkAll ds ≤ 1048576)
def OpenSpec.upto (s : _root_.Go.ChangeSpec) : _root_.Go.OpenSpec := { _root_.Go.OpenSpec.ofChange s with cond := some uptoSmall }

/-- 'laws.FnExactTcOk', WHERE WHAT IT READS IS OF BULK AT MOST 1048576: true; the input reads as it did. -/
def fnExactTcOkUptoRow : OpenClaim := { program := "ytickneafppbegaa", sum := "a5175a7c873cc8bd5865e542beb12f97150c06382b2bbae018c27311de6a93cb", func := "loop.example/g00790/laws.FnExactTcOk", spec := "fnExactTcOk", unfollowed := true, recurses := true, apart := false, narrowed := true }
def FnExactTcOkUptoSaid : Prop := fnExactTcOkUptoRow.holds Try.pinned (OpenSpec.upto fnExactTcOkSpec)

/-- 'laws.FnExactTcSame', WHERE WHAT IT READS IS OF BULK AT MOST 1048576: true; the input reads as it did. -/
def fnExactTcSameUptoRow : OpenClaim := { program := "ytickneafppbegaa", sum := "a5175a7c873cc8bd5865e542beb12f97150c06382b2bbae018c27311de6a93cb", func := "loop.example/g00790/laws.FnExactTcSame", spec := "fnExactTcSame", unfollowed := true, recurses := true, apart := false, narrowed := true }
def FnExactTcSameUptoSaid : Prop := fnExactTcSameUptoRow.holds Try.pinned (OpenSpec.upto fnExactTcSameSpec)

/-- 'laws.FnExactPutTc', WHERE WHAT IT READS IS OF BULK AT MOST 1048576: true; the input reads as it did. -/
def fnExactPutTcUptoRow : OpenClaim := { program := "ytickneafppbegaa", sum := "a5175a7c873cc8bd5865e542beb12f97150c06382b2bbae018c27311de6a93cb", func := "loop.example/g00790/laws.FnExactPutTc", spec := "fnExactPutTc", unfollowed := true, recurses := true, apart := false, narrowed := true }
def FnExactPutTcUptoSaid : Prop := fnExactPutTcUptoRow.holds Try.pinned (OpenSpec.upto fnExactPutTcSpec)

/-- 'laws.FnExactTcHigh', WHERE WHAT IT READS IS OF BULK AT MOST 1048576: true; the input reads as it did. -/
def fnExactTcHighUptoRow : OpenClaim := { program := "ytickneafppbegaa", sum := "a5175a7c873cc8bd5865e542beb12f97150c06382b2bbae018c27311de6a93cb", func := "loop.example/g00790/laws.FnExactTcHigh", spec := "fnExactTcHigh", apart := false, narrowed := true }
def FnExactTcHighUptoSaid : Prop := fnExactTcHighUptoRow.holds Try.pinned (OpenSpec.upto fnExactTcHighSpec)

/-- 'laws.FnExactTcBits', WHERE WHAT IT READS IS OF BULK AT MOST 1048576: true; the input reads as it did. -/
def fnExactTcBitsUptoRow : OpenClaim := { program := "ytickneafppbegaa", sum := "a5175a7c873cc8bd5865e542beb12f97150c06382b2bbae018c27311de6a93cb", func := "loop.example/g00790/laws.FnExactTcBits", spec := "fnExactTcBits", unfollowed := true, recurses := true, apart := false, narrowed := true }
def FnExactTcBitsUptoSaid : Prop := fnExactTcBitsUptoRow.holds Try.pinned (OpenSpec.upto fnExactTcBitsSpec)

end Rows
end Go.Proofs.Ytickneafppbegaa
