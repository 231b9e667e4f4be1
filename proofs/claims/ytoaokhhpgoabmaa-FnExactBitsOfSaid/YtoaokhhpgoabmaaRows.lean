/-
  No cell of these rows narrows 'for every input' (looked for: loops, veiled, ifaces, maps, wideKeys, modest, calm, conditions, laid).
  DERIVED. THE GIVEN ROWS OF THIS SEAT. 11 by the template 'for every input the law returns true; each argument reads behind the call as it read before'; 0 by the template 'total and deterministic' (their statements: YtoaokhhpgoabmaaTotals.lean).
  GIVEN WITH THE SEED: the statements are not yours to turn. If you find one false, say at which input.
  Laid BY PROGRAM, IN A SANDBOX (cutbox-rows.mjs): the forced cells as the released guide's own fill.sh prints them over the translation 0d049237a15ab80f… (all of the seat's roots in one cut). By AI agents, Wed Nov 11 2026. No macro, syntax, notation, axiom, sorry.
-/
import Derived.Test.YtoaokhhpgoabmaaChecked
import GoSem.Claim
import GoSem.ClaimJoined
import GoSem.ClaimMapViews
import Derived.JoinedTies
import Derived.KernelRfl
namespace Go.Proofs.Ytoaokhhpgoabmaa
/- THE CELL 'sum', in the pinned program and in every row, IS THE sha256 OF THE DUMP (.gsa) THAT YtoaokhhpgoabmaaProg.lean LOADS. Nothing in Lean hashes anything: it is a label: what it is worth is what the hold of that sum in a sandbox is worth. -/
noncomputable def Try.pinned : Pinned := { name := "ytoaokhhpgoabmaa", sum := "0d049237a15ab80f4347baad1b4953962d21d7cf41dd291c6f1e95c68ce0c0d9", checked := Try.checked }
namespace Rows
def none {H : Type} : Left H := { results := [], args := [] }

/-- 'laws.FnExactBitsSize': WHATEVER THE INPUT: true; the input reads as it did. -/
def fnExactBitsSizeSpec : ChangeSpec := { name := "fnExactBitsSize", fn := fun _ => fun
  | [d] => { results := [.lit (.bool true)], args := [d] }
  | _ => none }
def fnExactBitsSizeRow : OpenClaim := { program := "ytoaokhhpgoabmaa", sum := "0d049237a15ab80f4347baad1b4953962d21d7cf41dd291c6f1e95c68ce0c0d9", func := "loop.example/g00790/laws.FnExactBitsSize", spec := "fnExactBitsSize", apart := false }
def FnExactBitsSizeSaid : Prop := fnExactBitsSizeRow.holds Try.pinned (OpenSpec.ofChange fnExactBitsSizeSpec)

/-- ITS FALSE NEIGHBOUR: 'it returns false'. Refute it at one input. -/
def fnExactBitsSizeWrong : ChangeSpec := { name := "fnExactBitsSize", fn := fun _ => fun
  | [d] => { results := [.lit (.bool false)], args := [d] }
  | _ => none }
def FnExactBitsSizeWrongFalsely : Prop := fnExactBitsSizeRow.holds Try.pinned (OpenSpec.ofChange fnExactBitsSizeWrong)

/-- 'laws.FnExactBitsNew': WHATEVER THE INPUT: true; the input reads as it did. -/
def fnExactBitsNewSpec : ChangeSpec := { name := "fnExactBitsNew", fn := fun _ => fun
  | [d] => { results := [.lit (.bool true)], args := [d] }
  | _ => none }
def fnExactBitsNewRow : OpenClaim := { program := "ytoaokhhpgoabmaa", sum := "0d049237a15ab80f4347baad1b4953962d21d7cf41dd291c6f1e95c68ce0c0d9", func := "loop.example/g00790/laws.FnExactBitsNew", spec := "fnExactBitsNew", apart := false }
def FnExactBitsNewSaid : Prop := fnExactBitsNewRow.holds Try.pinned (OpenSpec.ofChange fnExactBitsNewSpec)

/-- ITS FALSE NEIGHBOUR: 'it returns false'. Refute it at one input. -/
def fnExactBitsNewWrong : ChangeSpec := { name := "fnExactBitsNew", fn := fun _ => fun
  | [d] => { results := [.lit (.bool false)], args := [d] }
  | _ => none }
def FnExactBitsNewWrongFalsely : Prop := fnExactBitsNewRow.holds Try.pinned (OpenSpec.ofChange fnExactBitsNewWrong)

/-- 'laws.FnExactBitsHas': WHATEVER THE INPUT: true; the input reads as it did. -/
def fnExactBitsHasSpec : ChangeSpec := { name := "fnExactBitsHas", fn := fun _ => fun
  | [d1, d2] => { results := [.lit (.bool true)], args := [d1, d2] }
  | _ => none }
def fnExactBitsHasRow : OpenClaim := { program := "ytoaokhhpgoabmaa", sum := "0d049237a15ab80f4347baad1b4953962d21d7cf41dd291c6f1e95c68ce0c0d9", func := "loop.example/g00790/laws.FnExactBitsHas", spec := "fnExactBitsHas", apart := false }
def FnExactBitsHasSaid : Prop := fnExactBitsHasRow.holds Try.pinned (OpenSpec.ofChange fnExactBitsHasSpec)

/-- ITS FALSE NEIGHBOUR: 'it returns false'. Refute it at one input. -/
def fnExactBitsHasWrong : ChangeSpec := { name := "fnExactBitsHas", fn := fun _ => fun
  | [d1, d2] => { results := [.lit (.bool false)], args := [d1, d2] }
  | _ => none }
def FnExactBitsHasWrongFalsely : Prop := fnExactBitsHasRow.holds Try.pinned (OpenSpec.ofChange fnExactBitsHasWrong)

/-- 'laws.FnExactBitsList': WHATEVER THE INPUT: true; the input reads as it did. -/
def fnExactBitsListSpec : ChangeSpec := { name := "fnExactBitsList", fn := fun _ => fun
  | [d] => { results := [.lit (.bool true)], args := [d] }
  | _ => none }
def fnExactBitsListRow : OpenClaim := { program := "ytoaokhhpgoabmaa", sum := "0d049237a15ab80f4347baad1b4953962d21d7cf41dd291c6f1e95c68ce0c0d9", func := "loop.example/g00790/laws.FnExactBitsList", spec := "fnExactBitsList", apart := false }
def FnExactBitsListSaid : Prop := fnExactBitsListRow.holds Try.pinned (OpenSpec.ofChange fnExactBitsListSpec)

/-- ITS FALSE NEIGHBOUR: 'it returns false'. Refute it at one input. -/
def fnExactBitsListWrong : ChangeSpec := { name := "fnExactBitsList", fn := fun _ => fun
  | [d] => { results := [.lit (.bool false)], args := [d] }
  | _ => none }
def FnExactBitsListWrongFalsely : Prop := fnExactBitsListRow.holds Try.pinned (OpenSpec.ofChange fnExactBitsListWrong)

/-- 'laws.FnExactBitsOk': WHATEVER THE INPUT: true; the input reads as it did. -/
def fnExactBitsOkSpec : ChangeSpec := { name := "fnExactBitsOk", fn := fun _ => fun
  | [d1, d2] => { results := [.lit (.bool true)], args := [d1, d2] }
  | _ => none }
def fnExactBitsOkRow : OpenClaim := { program := "ytoaokhhpgoabmaa", sum := "0d049237a15ab80f4347baad1b4953962d21d7cf41dd291c6f1e95c68ce0c0d9", func := "loop.example/g00790/laws.FnExactBitsOk", spec := "fnExactBitsOk", apart := false }
def FnExactBitsOkSaid : Prop := fnExactBitsOkRow.holds Try.pinned (OpenSpec.ofChange fnExactBitsOkSpec)

/-- ITS FALSE NEIGHBOUR: 'it returns false'. Refute it at one input. -/
def fnExactBitsOkWrong : ChangeSpec := { name := "fnExactBitsOk", fn := fun _ => fun
  | [d1, d2] => { results := [.lit (.bool false)], args := [d1, d2] }
  | _ => none }
def FnExactBitsOkWrongFalsely : Prop := fnExactBitsOkRow.holds Try.pinned (OpenSpec.ofChange fnExactBitsOkWrong)

/-- 'laws.FnExactBitsSet': WHATEVER THE INPUT: true; the input reads as it did. -/
def fnExactBitsSetSpec : ChangeSpec := { name := "fnExactBitsSet", fn := fun _ => fun
  | [d1, d2, d3, d4] => { results := [.lit (.bool true)], args := [d1, d2, d3, d4] }
  | _ => none }
def fnExactBitsSetRow : OpenClaim := { program := "ytoaokhhpgoabmaa", sum := "0d049237a15ab80f4347baad1b4953962d21d7cf41dd291c6f1e95c68ce0c0d9", func := "loop.example/g00790/laws.FnExactBitsSet", spec := "fnExactBitsSet", apart := false }
def FnExactBitsSetSaid : Prop := fnExactBitsSetRow.holds Try.pinned (OpenSpec.ofChange fnExactBitsSetSpec)

/-- ITS FALSE NEIGHBOUR: 'it returns false'. Refute it at one input. -/
def fnExactBitsSetWrong : ChangeSpec := { name := "fnExactBitsSet", fn := fun _ => fun
  | [d1, d2, d3, d4] => { results := [.lit (.bool false)], args := [d1, d2, d3, d4] }
  | _ => none }
def FnExactBitsSetWrongFalsely : Prop := fnExactBitsSetRow.holds Try.pinned (OpenSpec.ofChange fnExactBitsSetWrong)

/-- 'laws.FnExactBitsCount': WHATEVER THE INPUT: true; the input reads as it did. -/
def fnExactBitsCountSpec : ChangeSpec := { name := "fnExactBitsCount", fn := fun _ => fun
  | [d] => { results := [.lit (.bool true)], args := [d] }
  | _ => none }
def fnExactBitsCountRow : OpenClaim := { program := "ytoaokhhpgoabmaa", sum := "0d049237a15ab80f4347baad1b4953962d21d7cf41dd291c6f1e95c68ce0c0d9", func := "loop.example/g00790/laws.FnExactBitsCount", spec := "fnExactBitsCount", apart := false }
def FnExactBitsCountSaid : Prop := fnExactBitsCountRow.holds Try.pinned (OpenSpec.ofChange fnExactBitsCountSpec)

/-- ITS FALSE NEIGHBOUR: 'it returns false'. Refute it at one input. -/
def fnExactBitsCountWrong : ChangeSpec := { name := "fnExactBitsCount", fn := fun _ => fun
  | [d] => { results := [.lit (.bool false)], args := [d] }
  | _ => none }
def FnExactBitsCountWrongFalsely : Prop := fnExactBitsCountRow.holds Try.pinned (OpenSpec.ofChange fnExactBitsCountWrong)

/-- 'laws.FnExactBitsOf': WHATEVER THE INPUT: true; the input reads as it did. -/
def fnExactBitsOfSpec : ChangeSpec := { name := "fnExactBitsOf", fn := fun _ => fun
  | [d1, d2] => { results := [.lit (.bool true)], args := [d1, d2] }
  | _ => none }
def fnExactBitsOfRow : OpenClaim := { program := "ytoaokhhpgoabmaa", sum := "0d049237a15ab80f4347baad1b4953962d21d7cf41dd291c6f1e95c68ce0c0d9", func := "loop.example/g00790/laws.FnExactBitsOf", spec := "fnExactBitsOf", apart := false }
def FnExactBitsOfSaid : Prop := fnExactBitsOfRow.holds Try.pinned (OpenSpec.ofChange fnExactBitsOfSpec)

/-- ITS FALSE NEIGHBOUR: 'it returns false'. Refute it at one input. -/
def fnExactBitsOfWrong : ChangeSpec := { name := "fnExactBitsOf", fn := fun _ => fun
  | [d1, d2] => { results := [.lit (.bool false)], args := [d1, d2] }
  | _ => none }
def FnExactBitsOfWrongFalsely : Prop := fnExactBitsOfRow.holds Try.pinned (OpenSpec.ofChange fnExactBitsOfWrong)

/-- 'laws.FnExactBitsAnd': WHATEVER THE INPUT: true; the input reads as it did. -/
def fnExactBitsAndSpec : ChangeSpec := { name := "fnExactBitsAnd", fn := fun _ => fun
  | [d1, d2] => { results := [.lit (.bool true)], args := [d1, d2] }
  | _ => none }
def fnExactBitsAndRow : OpenClaim := { program := "ytoaokhhpgoabmaa", sum := "0d049237a15ab80f4347baad1b4953962d21d7cf41dd291c6f1e95c68ce0c0d9", func := "loop.example/g00790/laws.FnExactBitsAnd", spec := "fnExactBitsAnd", apart := false }
def FnExactBitsAndSaid : Prop := fnExactBitsAndRow.holds Try.pinned (OpenSpec.ofChange fnExactBitsAndSpec)

/-- ITS FALSE NEIGHBOUR: 'it returns false'. Refute it at one input. -/
def fnExactBitsAndWrong : ChangeSpec := { name := "fnExactBitsAnd", fn := fun _ => fun
  | [d1, d2] => { results := [.lit (.bool false)], args := [d1, d2] }
  | _ => none }
def FnExactBitsAndWrongFalsely : Prop := fnExactBitsAndRow.holds Try.pinned (OpenSpec.ofChange fnExactBitsAndWrong)

/-- 'laws.FnExactBitsOr': WHATEVER THE INPUT: true; the input reads as it did. -/
def fnExactBitsOrSpec : ChangeSpec := { name := "fnExactBitsOr", fn := fun _ => fun
  | [d1, d2] => { results := [.lit (.bool true)], args := [d1, d2] }
  | _ => none }
def fnExactBitsOrRow : OpenClaim := { program := "ytoaokhhpgoabmaa", sum := "0d049237a15ab80f4347baad1b4953962d21d7cf41dd291c6f1e95c68ce0c0d9", func := "loop.example/g00790/laws.FnExactBitsOr", spec := "fnExactBitsOr", apart := false }
def FnExactBitsOrSaid : Prop := fnExactBitsOrRow.holds Try.pinned (OpenSpec.ofChange fnExactBitsOrSpec)

/-- ITS FALSE NEIGHBOUR: 'it returns false'. Refute it at one input. -/
def fnExactBitsOrWrong : ChangeSpec := { name := "fnExactBitsOr", fn := fun _ => fun
  | [d1, d2] => { results := [.lit (.bool false)], args := [d1, d2] }
  | _ => none }
def FnExactBitsOrWrongFalsely : Prop := fnExactBitsOrRow.holds Try.pinned (OpenSpec.ofChange fnExactBitsOrWrong)

/-- 'laws.FnExactBitsIn': WHATEVER THE INPUT: true; the input reads as it did. -/
def fnExactBitsInSpec : ChangeSpec := { name := "fnExactBitsIn", fn := fun _ => fun
  | [d1, d2] => { results := [.lit (.bool true)], args := [d1, d2] }
  | _ => none }
def fnExactBitsInRow : OpenClaim := { program := "ytoaokhhpgoabmaa", sum := "0d049237a15ab80f4347baad1b4953962d21d7cf41dd291c6f1e95c68ce0c0d9", func := "loop.example/g00790/laws.FnExactBitsIn", spec := "fnExactBitsIn", apart := false }
def FnExactBitsInSaid : Prop := fnExactBitsInRow.holds Try.pinned (OpenSpec.ofChange fnExactBitsInSpec)

/-- ITS FALSE NEIGHBOUR: 'it returns false'. Refute it at one input. -/
def fnExactBitsInWrong : ChangeSpec := { name := "fnExactBitsIn", fn := fun _ => fun
  | [d1, d2] => { results := [.lit (.bool false)], args := [d1, d2] }
  | _ => none }
def FnExactBitsInWrongFalsely : Prop := fnExactBitsInRow.holds Try.pinned (OpenSpec.ofChange fnExactBitsInWrong)

/- THE SECOND FORM. 'bulk': how many values and letters a reading holds, each counted each time it is reached (what is shared counts as often as it is met; a slice's spare places count too). A statement '..UptoSaid' is the law's where the arguments, and the package variables that the reading takes, are together of bulk at most 1048576: NARROWER than '..Said'. Prove '..Said' where nothing that the law and all that it calls make is longer than what came in: it says more and counts as full. Else prove '..UptoSaid'. A law counts once. -/
mutual
def uptoBulk {H : Type} : DataW H → Nat
  | .lit (.string bytes) => bytes.length + 1
  | .lit _ => 1
  | .nil => 1
  | .ptr d => uptoBulk d + 1
  | .slice elems spare => uptoBulkAll elems + uptoBulkAll spare + 1
  | .agg parts => uptoBulkAll parts + 1
  | .iface _ d => uptoBulk d + 1
  | .map entries => uptoBulkEntries entries + 1
  | .held _ => 1
def uptoBulkAll {H : Type} : List (DataW H) → Nat
  | [] => 0
  | d :: r => uptoBulk d + uptoBulkAll r
def uptoBulkEntries {H : Type} : List (Lit × DataW H) → Nat
  | [] => 0
  | x :: r => uptoBulkEntry x + uptoBulkEntries r
def uptoBulkEntry {H : Type} : Lit × DataW H → Nat
  | (.string bytes, d) => bytes.length + uptoBulk d + 1
  | (_, d) => uptoBulk d + 1
 end
def uptoSmall : (H : Type) → List (DataW H) → Bool := fun _ ds => decide (uptoBulkAll ds ≤ 1048576)
def OpenSpec.upto (s : _root_.Go.ChangeSpec) : _root_.Go.OpenSpec := { _root_.Go.OpenSpec.ofChange s with cond := some uptoSmall }

/-- 'laws.FnExactBitsSize', WHERE WHAT IT READS IS OF BULK AT MOST 1048576: true; the input reads as it did. -/
def fnExactBitsSizeUptoRow : OpenClaim := { program := "ytoaokhhpgoabmaa", sum := "0d049237a15ab80f4347baad1b4953962d21d7cf41dd291c6f1e95c68ce0c0d9", func := "loop.example/g00790/laws.FnExactBitsSize", spec := "fnExactBitsSize", apart := false, narrowed := true }
def FnExactBitsSizeUptoSaid : Prop := fnExactBitsSizeUptoRow.holds Try.pinned (OpenSpec.upto fnExactBitsSizeSpec)

/-- 'laws.FnExactBitsNew', WHERE WHAT IT READS IS OF BULK AT MOST 1048576: true; the input reads as it did. -/
def fnExactBitsNewUptoRow : OpenClaim := { program := "ytoaokhhpgoabmaa", sum := "0d049237a15ab80f4347baad1b4953962d21d7cf41dd291c6f1e95c68ce0c0d9", func := "loop.example/g00790/laws.FnExactBitsNew", spec := "fnExactBitsNew", apart := false, narrowed := true }
def FnExactBitsNewUptoSaid : Prop := fnExactBitsNewUptoRow.holds Try.pinned (OpenSpec.upto fnExactBitsNewSpec)

/-- 'laws.FnExactBitsHas', WHERE WHAT IT READS IS OF BULK AT MOST 1048576: true; the input reads as it did. -/
def fnExactBitsHasUptoRow : OpenClaim := { program := "ytoaokhhpgoabmaa", sum := "0d049237a15ab80f4347baad1b4953962d21d7cf41dd291c6f1e95c68ce0c0d9", func := "loop.example/g00790/laws.FnExactBitsHas", spec := "fnExactBitsHas", apart := false, narrowed := true }
def FnExactBitsHasUptoSaid : Prop := fnExactBitsHasUptoRow.holds Try.pinned (OpenSpec.upto fnExactBitsHasSpec)

/-- 'laws.FnExactBitsList', WHERE WHAT IT READS IS OF BULK AT MOST 1048576: true; the input reads as it did. -/
def fnExactBitsListUptoRow : OpenClaim := { program := "ytoaokhhpgoabmaa", sum := "0d049237a15ab80f4347baad1b4953962d21d7cf41dd291c6f1e95c68ce0c0d9", func := "loop.example/g00790/laws.FnExactBitsList", spec := "fnExactBitsList", apart := false, narrowed := true }
def FnExactBitsListUptoSaid : Prop := fnExactBitsListUptoRow.holds Try.pinned (OpenSpec.upto fnExactBitsListSpec)

/-- 'laws.FnExactBitsOk', WHERE WHAT IT READS IS OF BULK AT MOST 1048576: true; the input reads as it did. -/
def fnExactBitsOkUptoRow : OpenClaim := { program := "ytoaokhhpgoabmaa", sum := "0d049237a15ab80f4347baad1b4953962d21d7cf41dd291c6f1e95c68ce0c0d9", func := "loop.example/g00790/laws.FnExactBitsOk", spec := "fnExactBitsOk", apart := false, narrowed := true }
def FnExactBitsOkUptoSaid : Prop := fnExactBitsOkUptoRow.holds Try.pinned (OpenSpec.upto fnExactBitsOkSpec)

/-- 'laws.FnExactBitsSet', WHERE WHAT IT READS IS OF BULK AT MOST 1048576: true; the input reads as it did. -/
def fnExactBitsSetUptoRow : OpenClaim := { program := "ytoaokhhpgoabmaa", sum := "0d049237a15ab80f4347baad1b4953962d21d7cf41dd291c6f1e95c68ce0c0d9", func := "loop.example/g00790/laws.FnExactBitsSet", spec := "fnExactBitsSet", apart := false, narrowed := true }
def FnExactBitsSetUptoSaid : Prop := fnExactBitsSetUptoRow.holds Try.pinned (OpenSpec.upto fnExactBitsSetSpec)

/-- 'laws.FnExactBitsCount', WHERE WHAT IT READS IS OF BULK AT MOST 1048576: true; the input reads as it did. -/
def fnExactBitsCountUptoRow : OpenClaim := { program := "ytoaokhhpgoabmaa", sum := "0d049237a15ab80f4347baad1b4953962d21d7cf41dd291c6f1e95c68ce0c0d9", func := "loop.example/g00790/laws.FnExactBitsCount", spec := "fnExactBitsCount", apart := false, narrowed := true }
def FnExactBitsCountUptoSaid : Prop := fnExactBitsCountUptoRow.holds Try.pinned (OpenSpec.upto fnExactBitsCountSpec)

/-- 'laws.FnExactBitsOf', WHERE WHAT IT READS IS OF BULK AT MOST 1048576: true; the input reads as it did. -/
def fnExactBitsOfUptoRow : OpenClaim := { program := "ytoaokhhpgoabmaa", sum := "0d049237a15ab80f4347baad1b4953962d21d7cf41dd291c6f1e95c68ce0c0d9", func := "loop.example/g00790/laws.FnExactBitsOf", spec := "fnExactBitsOf", apart := false, narrowed := true }
def FnExactBitsOfUptoSaid : Prop := fnExactBitsOfUptoRow.holds Try.pinned (OpenSpec.upto fnExactBitsOfSpec)

/-- 'laws.FnExactBitsAnd', WHERE WHAT IT READS IS OF BULK AT MOST 1048576: true; the input reads as it did. -/
def fnExactBitsAndUptoRow : OpenClaim := { program := "ytoaokhhpgoabmaa", sum := "0d049237a15ab80f4347baad1b4953962d21d7cf41dd291c6f1e95c68ce0c0d9", func := "loop.example/g00790/laws.FnExactBitsAnd", spec := "fnExactBitsAnd", apart := false, narrowed := true }
def FnExactBitsAndUptoSaid : Prop := fnExactBitsAndUptoRow.holds Try.pinned (OpenSpec.upto fnExactBitsAndSpec)

/-- 'laws.FnExactBitsOr', WHERE WHAT IT READS IS OF BULK AT MOST 1048576: true; the input reads as it did. -/
def fnExactBitsOrUptoRow : OpenClaim := { program := "ytoaokhhpgoabmaa", sum := "0d049237a15ab80f4347baad1b4953962d21d7cf41dd291c6f1e95c68ce0c0d9", func := "loop.example/g00790/laws.FnExactBitsOr", spec := "fnExactBitsOr", apart := false, narrowed := true }
def FnExactBitsOrUptoSaid : Prop := fnExactBitsOrUptoRow.holds Try.pinned (OpenSpec.upto fnExactBitsOrSpec)

/-- 'laws.FnExactBitsIn', WHERE WHAT IT READS IS OF BULK AT MOST 1048576: true; the input reads as it did. -/
def fnExactBitsInUptoRow : OpenClaim := { program := "ytoaokhhpgoabmaa", sum := "0d049237a15ab80f4347baad1b4953962d21d7cf41dd291c6f1e95c68ce0c0d9", func := "loop.example/g00790/laws.FnExactBitsIn", spec := "fnExactBitsIn", apart := false, narrowed := true }
def FnExactBitsInUptoSaid : Prop := fnExactBitsInUptoRow.holds Try.pinned (OpenSpec.upto fnExactBitsInSpec)

end Rows
end Go.Proofs.Ytoaokhhpgoabmaa
