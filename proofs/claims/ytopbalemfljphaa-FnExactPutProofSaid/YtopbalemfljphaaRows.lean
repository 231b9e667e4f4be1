/-
  No cell of these rows narrows 'for every input' (looked for: loops, veiled, ifaces, maps, wideKeys, modest, calm, conditions, laid).
  DERIVED. THE GIVEN ROWS OF THIS SEAT. 6 by the template 'for every input the law returns true; each argument reads behind the call as it read before'; 0 by the template 'total and deterministic' (their statements: YtopbalemfljphaaTotals.lean).
  GIVEN WITH THE SEED: the statements are not yours to turn. If you find one false, say at which input.
  Laid BY PROGRAM, IN A SANDBOX (cutbox-rows.mjs): the forced cells as the released guide's own fill.sh prints them over the translation e77cdea4d5f4c877… (all of the seat's roots in one cut). By AI agents, Wed Nov 11 2026. No macro, syntax, notation, axiom, sorry.
-/
import Derived.Test.YtopbalemfljphaaChecked
import GoSem.Claim
import GoSem.ClaimJoined
import GoSem.ClaimMapViews
import Derived.JoinedTies
import Derived.KernelRfl
namespace Go.Proofs.Ytopbalemfljphaa
/- THE CELL 'sum', in the pinned program and in every row, IS THE sha256 OF THE DUMP (.gsa) THAT YtopbalemfljphaaProg.lean LOADS. Nothing in Lean hashes anything: it is a label: what it is worth is what the hold of that sum in a sandbox is worth. -/
noncomputable def Try.pinned : Pinned := { name := "ytopbalemfljphaa", sum := "e77cdea4d5f4c877448fd28d8f66351c65a179be45501b598f398f43360b2182", checked := Try.checked }
namespace Rows
def none {H : Type} : Left H := { results := [], args := [] }

/-- 'laws.FnExactProofOk': WHATEVER THE INPUT: true; the input reads as it did. -/
def fnExactProofOkSpec : ChangeSpec := { name := "fnExactProofOk", fn := fun _ => fun
  | [d1, d2] => { results := [.lit (.bool true)], args := [d1, d2] }
  | _ => none }
def fnExactProofOkRow : OpenClaim := { program := "ytopbalemfljphaa", sum := "e77cdea4d5f4c877448fd28d8f66351c65a179be45501b598f398f43360b2182", func := "loop.example/g00790/laws.FnExactProofOk", spec := "fnExactProofOk", unfollowed := true, recurses := true, apart := false }
def FnExactProofOkSaid : Prop := fnExactProofOkRow.holds Try.pinned (OpenSpec.ofChange fnExactProofOkSpec)

/-- ITS FALSE NEIGHBOUR: 'it returns false'. Refute it at one input. -/
def fnExactProofOkWrong : ChangeSpec := { name := "fnExactProofOk", fn := fun _ => fun
  | [d1, d2] => { results := [.lit (.bool false)], args := [d1, d2] }
  | _ => none }
def FnExactProofOkWrongFalsely : Prop := fnExactProofOkRow.holds Try.pinned (OpenSpec.ofChange fnExactProofOkWrong)

/-- 'laws.FnExactProofSame': WHATEVER THE INPUT: true; the input reads as it did. -/
def fnExactProofSameSpec : ChangeSpec := { name := "fnExactProofSame", fn := fun _ => fun
  | [d1, d2] => { results := [.lit (.bool true)], args := [d1, d2] }
  | _ => none }
def fnExactProofSameRow : OpenClaim := { program := "ytopbalemfljphaa", sum := "e77cdea4d5f4c877448fd28d8f66351c65a179be45501b598f398f43360b2182", func := "loop.example/g00790/laws.FnExactProofSame", spec := "fnExactProofSame", unfollowed := true, recurses := true, apart := false }
def FnExactProofSameSaid : Prop := fnExactProofSameRow.holds Try.pinned (OpenSpec.ofChange fnExactProofSameSpec)

/-- ITS FALSE NEIGHBOUR: 'it returns false'. Refute it at one input. -/
def fnExactProofSameWrong : ChangeSpec := { name := "fnExactProofSame", fn := fun _ => fun
  | [d1, d2] => { results := [.lit (.bool false)], args := [d1, d2] }
  | _ => none }
def FnExactProofSameWrongFalsely : Prop := fnExactProofSameRow.holds Try.pinned (OpenSpec.ofChange fnExactProofSameWrong)

/-- 'laws.FnExactPutProof': WHATEVER THE INPUT: true; the input reads as it did. -/
def fnExactPutProofSpec : ChangeSpec := { name := "fnExactPutProof", fn := fun _ => fun
  | [d1, d2, d3] => { results := [.lit (.bool true)], args := [d1, d2, d3] }
  | _ => none }
def fnExactPutProofRow : OpenClaim := { program := "ytopbalemfljphaa", sum := "e77cdea4d5f4c877448fd28d8f66351c65a179be45501b598f398f43360b2182", func := "loop.example/g00790/laws.FnExactPutProof", spec := "fnExactPutProof", unfollowed := true, recurses := true, apart := false }
def FnExactPutProofSaid : Prop := fnExactPutProofRow.holds Try.pinned (OpenSpec.ofChange fnExactPutProofSpec)

/-- ITS FALSE NEIGHBOUR: 'it returns false'. Refute it at one input. -/
def fnExactPutProofWrong : ChangeSpec := { name := "fnExactPutProof", fn := fun _ => fun
  | [d1, d2, d3] => { results := [.lit (.bool false)], args := [d1, d2, d3] }
  | _ => none }
def FnExactPutProofWrongFalsely : Prop := fnExactPutProofRow.holds Try.pinned (OpenSpec.ofChange fnExactPutProofWrong)

/-- 'laws.FnExactInclOk': WHATEVER THE INPUT: true; the input reads as it did. -/
def fnExactInclOkSpec : ChangeSpec := { name := "fnExactInclOk", fn := fun _ => fun
  | [d1, d2] => { results := [.lit (.bool true)], args := [d1, d2] }
  | _ => none }
def fnExactInclOkRow : OpenClaim := { program := "ytopbalemfljphaa", sum := "e77cdea4d5f4c877448fd28d8f66351c65a179be45501b598f398f43360b2182", func := "loop.example/g00790/laws.FnExactInclOk", spec := "fnExactInclOk", unfollowed := true, recurses := true, apart := false }
def FnExactInclOkSaid : Prop := fnExactInclOkRow.holds Try.pinned (OpenSpec.ofChange fnExactInclOkSpec)

/-- ITS FALSE NEIGHBOUR: 'it returns false'. Refute it at one input. -/
def fnExactInclOkWrong : ChangeSpec := { name := "fnExactInclOk", fn := fun _ => fun
  | [d1, d2] => { results := [.lit (.bool false)], args := [d1, d2] }
  | _ => none }
def FnExactInclOkWrongFalsely : Prop := fnExactInclOkRow.holds Try.pinned (OpenSpec.ofChange fnExactInclOkWrong)

/-- 'laws.FnExactInclSame': WHATEVER THE INPUT: true; the input reads as it did. -/
def fnExactInclSameSpec : ChangeSpec := { name := "fnExactInclSame", fn := fun _ => fun
  | [d1, d2] => { results := [.lit (.bool true)], args := [d1, d2] }
  | _ => none }
def fnExactInclSameRow : OpenClaim := { program := "ytopbalemfljphaa", sum := "e77cdea4d5f4c877448fd28d8f66351c65a179be45501b598f398f43360b2182", func := "loop.example/g00790/laws.FnExactInclSame", spec := "fnExactInclSame", unfollowed := true, recurses := true, apart := false }
def FnExactInclSameSaid : Prop := fnExactInclSameRow.holds Try.pinned (OpenSpec.ofChange fnExactInclSameSpec)

/-- ITS FALSE NEIGHBOUR: 'it returns false'. Refute it at one input. -/
def fnExactInclSameWrong : ChangeSpec := { name := "fnExactInclSame", fn := fun _ => fun
  | [d1, d2] => { results := [.lit (.bool false)], args := [d1, d2] }
  | _ => none }
def FnExactInclSameWrongFalsely : Prop := fnExactInclSameRow.holds Try.pinned (OpenSpec.ofChange fnExactInclSameWrong)

/-- 'laws.FnExactPutIncl': WHATEVER THE INPUT: true; the input reads as it did. -/
def fnExactPutInclSpec : ChangeSpec := { name := "fnExactPutIncl", fn := fun _ => fun
  | [d1, d2, d3] => { results := [.lit (.bool true)], args := [d1, d2, d3] }
  | _ => none }
def fnExactPutInclRow : OpenClaim := { program := "ytopbalemfljphaa", sum := "e77cdea4d5f4c877448fd28d8f66351c65a179be45501b598f398f43360b2182", func := "loop.example/g00790/laws.FnExactPutIncl", spec := "fnExactPutIncl", unfollowed := true, recurses := true, apart := false }
def FnExactPutInclSaid : Prop := fnExactPutInclRow.holds Try.pinned (OpenSpec.ofChange fnExactPutInclSpec)

/-- ITS FALSE NEIGHBOUR: 'it returns false'. Refute it at one input. -/
def fnExactPutInclWrong : ChangeSpec := { name := "fnExactPutIncl", fn := fun _ => fun
  | [d1, d2, d3] => { results := [.lit (.bool false)], args := [d1, d2, d3] }
  | _ => none }
def FnExactPutInclWrongFalsely : Prop := fnExactPutInclRow.holds Try.pinned (OpenSpec.ofChange fnExactPutInclWrong)

/- THE SECOND FORM. 'bulk': how many values and letters a reading holds, each counted each time it is reached (what is shared counts as often as it is met; a slice's spare places count too). A statement '..UptoSaid' is the law's where the arguments, and the package variables that the reading takes, are together of bulk at most 1048576: NARROWER than '..Said'. Prove '..Said' where nothing that the law and all that it calls make is longer than what came in: it says more and counts as full. Else prove '..UptoSaid'. A law counts once. -/
mutual
def uptoBulk {H : Type} : DataW H → Nat
  | .lit (.string bytes) => bytes.length + 1
  | .lit _ => 1
  | .nil => 1
  | .ptr d => uptoBulk d + 1
  | .slice elems spare => uptoBulkAll elems + uptoBulkAll spare + 1
  | .agg parts => uptoBulkAll parts + 1
  | .iface _ d => uptoBulk d + 1
  | .map entries => uptoBulkEntries entries + 1
  | .held _ => 1
def uptoBulkAll {H : Type} : List (DataW H) → Nat
  | [] => 0
  | d :: r => uptoBulk d + uptoBulkAll r
def uptoBulkEntries {H : Type} : List (Lit × DataW H) → Nat
  | [] => 0
  | x :: r => uptoBulkEntry x + uptoBulkEntries r
def uptoBulkEntry {H : Type} : Lit × DataW H → Nat
  | (.string bytes, d) => bytes.length + uptoBulk d + 1
  | (_, d) => uptoBulk d + 1
 end
def uptoSmall : (H : Type) → List (DataW H) → Bool := fun _ ds => decide (uptoBulkAll ds ≤ 1048576)
def OpenSpec.upto (s : _root_.Go.ChangeSpec) : _root_.Go.OpenSpec := { _root_.Go.OpenSpec.ofChange s with cond := some uptoSmall }

/-- 'laws.FnExactProofOk', WHERE WHAT IT READS IS OF BULK AT MOST 1048576: true; the input reads as it did. -/
def fnExactProofOkUptoRow : OpenClaim := { program := "ytopbalemfljphaa", sum := "e77cdea4d5f4c877448fd28d8f66351c65a179be45501b598f398f43360b2182", func := "loop.example/g00790/laws.FnExactProofOk", spec := "fnExactProofOk", unfollowed := true, recurses := true, apart := false, narrowed := true }
def FnExactProofOkUptoSaid : Prop := fnExactProofOkUptoRow.holds Try.pinned (OpenSpec.upto fnExactProofOkSpec)

/-- 'laws.FnExactProofSame', WHERE WHAT IT READS IS OF BULK AT MOST 1048576: true; the input reads as it did. -/
def fnExactProofSameUptoRow : OpenClaim := { program := "ytopbalemfljphaa", sum := "e77cdea4d5f4c877448fd28d8f66351c65a179be45501b598f398f43360b2182", func := "loop.example/g00790/laws.FnExactProofSame", spec := "fnExactProofSame", unfollowed := true, recurses := true, apart := false, narrowed := true }
def FnExactProofSameUptoSaid : Prop := fnExactProofSameUptoRow.holds Try.pinned (OpenSpec.upto fnExactProofSameSpec)

/-- 'laws.FnExactPutProof', WHERE WHAT IT READS IS OF BULK AT MOST 1048576: true; the input reads as it did. -/
def fnExactPutProofUptoRow : OpenClaim := { program := "ytopbalemfljphaa", sum := "e77cdea4d5f4c877448fd28d8f66351c65a179be45501b598f398f43360b2182", func := "loop.example/g00790/laws.FnExactPutProof", spec := "fnExactPutProof", unfollowed := true, recurses := true, apart := false, narrowed := true }
def FnExactPutProofUptoSaid : Prop := fnExactPutProofUptoRow.holds Try.pinned (OpenSpec.upto fnExactPutProofSpec)

/-- 'laws.FnExactInclOk', WHERE WHAT IT READS IS OF BULK AT MOST 1048576: true; the input reads as it did. -/
def fnExactInclOkUptoRow : OpenClaim := { program := "ytopbalemfljphaa", sum := "e77cdea4d5f4c877448fd28d8f66351c65a179be45501b598f398f43360b2182", func := "loop.example/g00790/laws.FnExactInclOk", spec := "fnExactInclOk", unfollowed := true, recurses := true, apart := false, narrowed := true }
def FnExactInclOkUptoSaid : Prop := fnExactInclOkUptoRow.holds Try.pinned (OpenSpec.upto fnExactInclOkSpec)

/-- 'laws.FnExactInclSame', WHERE WHAT IT READS IS OF BULK AT MOST 1048576: true; the input reads as it did. -/
def fnExactInclSameUptoRow : OpenClaim := { program := "ytopbalemfljphaa", sum := "e77cdea4d5f4c877448fd28d8f66351c65a179be45501b598f398f43360b2182", func := "loop.example/g00790/laws.FnExactInclSame", spec := "fnExactInclSame", unfollowed := true, recurses := true, apart := false, narrowed := true }
def FnExactInclSameUptoSaid : Prop := fnExactInclSameUptoRow.holds Try.pinned (OpenSpec.upto fnExactInclSameSpec)

/-- 'laws.FnExactPutIncl', WHERE WHAT IT READS IS OF BULK AT MOST 1048576: true; the input reads as it did. -/
def fnExactPutInclUptoRow : OpenClaim := { program := "ytopbalemfljphaa", sum := "e77cdea4d5f4c877448fd28d8f66351c65a179be45501b598f398f43360b2182", func := "loop.example/g00790/laws.FnExactPutIncl", spec := "fnExactPutIncl", unfollowed := true, recurses := true, apart := false, narrowed := true }
def FnExactPutInclUptoSaid : Prop := fnExactPutInclUptoRow.holds Try.pinned (OpenSpec.upto fnExactPutInclSpec)

end Rows
end Go.Proofs.Ytopbalemfljphaa
