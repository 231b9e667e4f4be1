/-
  DERIVED. GIVEN WITH THE SEED: THE CARDS: each row of YtickneafppbegaaDoorRows.lean that lists a variable, with what it lists TIED to the program's text (the seventh form; the later family's looks); each row that meets fmt, with fmt's text TOLD by the authors' own Lean function (tested against real Go, not proved from fmt's source: count such statements apart). THE CARD IS WHAT COUNTS. Prove the row's statement (the work); the ties are given (YtickneafppbegaaDoorTie.lean); close each card by the builder's one call (the guide's Derived/Test/ToyasCard.lean, 'card_holds'). Laid BY PROGRAM, IN A SANDBOX (cutbox-door.mjs). By AI agents, Wed Nov 11 2026. No macro, syntax, notation, axiom, sorry.
-/
import Derived.Test.YtickneafppbegaaDoorRows
import GoSem.ClaimSeven
namespace Go.Proofs.YtickneafppbegaaDoor
namespace Rows

/-- THE TIED CARD OF 'laws.FnExactGetTc'. -/
def fnExactGetTcCard : Claim7 := { stood := { row := fnExactGetTcRow, standIns := [], harness := (true, "9e1dbb780406167b8b9b39ec5e1e29591e6f5778343e72e1649b55edb0e69c0f"), looks := true }, kinds := [], alts := [], laidByText := true, laidKinds := [.handle], laidTests := true, laidLooks := .later }
def FnExactGetTcCardSaid : Prop := Claim7.holds Tryd.pinned (.plain (OpenSpec.ofChange fnExactGetTcSpec)) fnExactGetTcCard

/-- THE SECOND FORM's CARD OF 'laws.FnExactGetTc'. -/
def fnExactGetTcUptoCard : Claim7 := { stood := { row := fnExactGetTcUptoRow, standIns := [], harness := (true, "9e1dbb780406167b8b9b39ec5e1e29591e6f5778343e72e1649b55edb0e69c0f"), looks := true }, kinds := [], alts := [], laidByText := true, laidKinds := [.handle], laidTests := true, laidLooks := .later }
def FnExactGetTcUptoCardSaid : Prop := Claim7.holds Tryd.pinned (.plain (OpenSpec.upto fnExactGetTcSpec)) fnExactGetTcUptoCard
end Rows
end Go.Proofs.YtickneafppbegaaDoor
