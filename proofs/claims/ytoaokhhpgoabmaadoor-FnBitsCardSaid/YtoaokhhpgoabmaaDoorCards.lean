/-
  DERIVED. GIVEN WITH THE SEED: THE CARDS: each row of YtoaokhhpgoabmaaDoorRows.lean that lists a variable, with what it lists TIED to the program's text (the seventh form; the later family's looks); each row that meets fmt, with fmt's text TOLD by the authors' own Lean function (tested against real Go, not proved from fmt's source: count such statements apart). THE CARD IS WHAT COUNTS. Prove the row's statement (the work); the ties are given (YtoaokhhpgoabmaaDoorTie.lean); close each card by the builder's one call (the guide's Derived/Test/ToyasCard.lean, 'card_holds'). Laid BY PROGRAM, IN A SANDBOX (cutbox-door.mjs). By AI agents, Wed Nov 11 2026. No macro, syntax, notation, axiom, sorry.
-/
import Derived.Test.YtoaokhhpgoabmaaDoorRows
import GoSem.ClaimSeven
namespace Go.Proofs.YtoaokhhpgoabmaaDoor
namespace Rows

/-- THE TIED CARD OF 'laws.FnBits'. -/
def fnBitsCard : Claim7 := { stood := { row := fnBitsRow, standIns := [], harness := (true, "4496374e7c9d5207a44e2cb9f1569142d017fb3b246c4ed7969f738808cd3c8d"), looks := true }, kinds := [], alts := [], laidByText := true, laidKinds := [.handle], laidTests := true, laidLooks := .later }
def FnBitsCardSaid : Prop := Claim7.holds Tryd.pinned (.plain (OpenSpec.ofChange fnBitsSpec)) fnBitsCard

/-- THE TIED CARD OF 'laws.FnExactGetBits'. -/
def fnExactGetBitsCard : Claim7 := { stood := { row := fnExactGetBitsRow, standIns := [], harness := (true, "4496374e7c9d5207a44e2cb9f1569142d017fb3b246c4ed7969f738808cd3c8d"), looks := true }, kinds := [], alts := [], laidByText := true, laidKinds := [.handle], laidTests := true, laidLooks := .later }
def FnExactGetBitsCardSaid : Prop := Claim7.holds Tryd.pinned (.plain (OpenSpec.ofChange fnExactGetBitsSpec)) fnExactGetBitsCard

/-- THE SECOND FORM's CARD OF 'laws.FnBits'. -/
def fnBitsUptoCard : Claim7 := { stood := { row := fnBitsUptoRow, standIns := [], harness := (true, "4496374e7c9d5207a44e2cb9f1569142d017fb3b246c4ed7969f738808cd3c8d"), looks := true }, kinds := [], alts := [], laidByText := true, laidKinds := [.handle], laidTests := true, laidLooks := .later }
def FnBitsUptoCardSaid : Prop := Claim7.holds Tryd.pinned (.plain (OpenSpec.upto fnBitsSpec)) fnBitsUptoCard

/-- THE SECOND FORM's CARD OF 'laws.FnExactGetBits'. -/
def fnExactGetBitsUptoCard : Claim7 := { stood := { row := fnExactGetBitsUptoRow, standIns := [], harness := (true, "4496374e7c9d5207a44e2cb9f1569142d017fb3b246c4ed7969f738808cd3c8d"), looks := true }, kinds := [], alts := [], laidByText := true, laidKinds := [.handle], laidTests := true, laidLooks := .later }
def FnExactGetBitsUptoCardSaid : Prop := Claim7.holds Tryd.pinned (.plain (OpenSpec.upto fnExactGetBitsSpec)) fnExactGetBitsUptoCard
end Rows
end Go.Proofs.YtoaokhhpgoabmaaDoor
