/-
  DERIVED. GIVEN WITH THE SEED: THE CARDS: each row of YtdoaikanaodefaaDoorRows.lean that lists a variable, with what it lists TIED to the program's text (the seventh form; the later family's looks); each row that meets fmt, with fmt's text TOLD by the authors' own Lean function (tested against real Go, not proved from fmt's source: count such statements apart). THE CARD IS WHAT COUNTS. Prove the row's statement (the work); the ties are given (YtdoaikanaodefaaDoorTie.lean); close each card by the builder's one call (the guide's Derived/Test/ToyasCard.lean, 'card_holds'). Laid BY PROGRAM, IN A SANDBOX (cutbox-door.mjs). By AI agents, Wed Nov 11 2026. No macro, syntax, notation, axiom, sorry.
-/
import Derived.Test.YtdoaikanaodefaaDoorRows
import GoSem.ClaimSeven
namespace Go.Proofs.YtdoaikanaodefaaDoor
namespace Rows

/-- THE TIED CARD OF 'laws.FnStack'. -/
def fnStackCard : Claim7 := { stood := { row := fnStackRow, standIns := [], harness := (true, "96227bb2b262c169111b14c629013d65e2c20658c0cac92cde3adfd0c65775cb"), looks := false }, kinds := [], alts := [], laidByText := true, laidKinds := [.wider, .data], laidTests := true, laidLooks := .later }
def FnStackCardSaid : Prop := Claim7.holds Tryd.pinned (.plain (OpenSpec.ofChange fnStackSpec)) fnStackCard

/-- THE TIED CARD OF 'laws.FnExactStackPush'. -/
def fnExactStackPushCard : Claim7 := { stood := { row := fnExactStackPushRow, standIns := [], harness := (true, "96227bb2b262c169111b14c629013d65e2c20658c0cac92cde3adfd0c65775cb"), looks := false }, kinds := [], alts := [], laidByText := true, laidKinds := [.wider, .data], laidTests := true, laidLooks := .later }
def FnExactStackPushCardSaid : Prop := Claim7.holds Tryd.pinned (.plain (OpenSpec.ofChange fnExactStackPushSpec)) fnExactStackPushCard

/-- THE TIED CARD OF 'laws.FnExactStackOf'. -/
def fnExactStackOfCard : Claim7 := { stood := { row := fnExactStackOfRow, standIns := [], harness := (true, "96227bb2b262c169111b14c629013d65e2c20658c0cac92cde3adfd0c65775cb"), looks := false }, kinds := [], alts := [], laidByText := true, laidKinds := [.wider, .data], laidTests := true, laidLooks := .later }
def FnExactStackOfCardSaid : Prop := Claim7.holds Tryd.pinned (.plain (OpenSpec.ofChange fnExactStackOfSpec)) fnExactStackOfCard

/-- THE TIED CARD OF 'laws.FnExactBlockOk'. -/
def fnExactBlockOkCard : Claim7 := { stood := { row := fnExactBlockOkRow, standIns := [], harness := (true, "96227bb2b262c169111b14c629013d65e2c20658c0cac92cde3adfd0c65775cb"), looks := false }, kinds := [], alts := [], laidByText := true, laidKinds := [.wider, .data], laidTests := true, laidLooks := .later }
def FnExactBlockOkCardSaid : Prop := Claim7.holds Tryd.pinned (.plain (OpenSpec.ofChange fnExactBlockOkSpec)) fnExactBlockOkCard

/-- THE SECOND FORM's CARD OF 'laws.FnStack'. -/
def fnStackUptoCard : Claim7 := { stood := { row := fnStackUptoRow, standIns := [], harness := (true, "96227bb2b262c169111b14c629013d65e2c20658c0cac92cde3adfd0c65775cb"), looks := false }, kinds := [], alts := [], laidByText := true, laidKinds := [.wider, .data], laidTests := true, laidLooks := .later }
def FnStackUptoCardSaid : Prop := Claim7.holds Tryd.pinned (.plain (OpenSpec.upto fnStackSpec)) fnStackUptoCard

/-- THE SECOND FORM's CARD OF 'laws.FnExactStackPush'. -/
def fnExactStackPushUptoCard : Claim7 := { stood := { row := fnExactStackPushUptoRow, standIns := [], harness := (true, "96227bb2b262c169111b14c629013d65e2c20658c0cac92cde3adfd0c65775cb"), looks := false }, kinds := [], alts := [], laidByText := true, laidKinds := [.wider, .data], laidTests := true, laidLooks := .later }
def FnExactStackPushUptoCardSaid : Prop := Claim7.holds Tryd.pinned (.plain (OpenSpec.upto fnExactStackPushSpec)) fnExactStackPushUptoCard

/-- THE SECOND FORM's CARD OF 'laws.FnExactStackOf'. -/
def fnExactStackOfUptoCard : Claim7 := { stood := { row := fnExactStackOfUptoRow, standIns := [], harness := (true, "96227bb2b262c169111b14c629013d65e2c20658c0cac92cde3adfd0c65775cb"), looks := false }, kinds := [], alts := [], laidByText := true, laidKinds := [.wider, .data], laidTests := true, laidLooks := .later }
def FnExactStackOfUptoCardSaid : Prop := Claim7.holds Tryd.pinned (.plain (OpenSpec.upto fnExactStackOfSpec)) fnExactStackOfUptoCard

/-- THE SECOND FORM's CARD OF 'laws.FnExactBlockOk'. -/
def fnExactBlockOkUptoCard : Claim7 := { stood := { row := fnExactBlockOkUptoRow, standIns := [], harness := (true, "96227bb2b262c169111b14c629013d65e2c20658c0cac92cde3adfd0c65775cb"), looks := false }, kinds := [], alts := [], laidByText := true, laidKinds := [.wider, .data], laidTests := true, laidLooks := .later }
def FnExactBlockOkUptoCardSaid : Prop := Claim7.holds Tryd.pinned (.plain (OpenSpec.upto fnExactBlockOkSpec)) fnExactBlockOkUptoCard
end Rows
end Go.Proofs.YtdoaikanaodefaaDoor
