/-
  DERIVED. GIVEN WITH THE SEED: THE CARDS: each row of YtpnfdngacipfgaaDoorRows.lean that lists a variable, with what it lists TIED to the program's text (the seventh form; the later family's looks); each row that meets fmt, with fmt's text TOLD by the authors' own Lean function (tested against real Go, not proved from fmt's source: count such statements apart). THE CARD IS WHAT COUNTS. Prove the row's statement (the work); the ties are given (YtpnfdngacipfgaaDoorTie.lean); close each card by the builder's one call (the guide's Derived/Test/ToyasCard.lean, 'card_holds'). Laid BY PROGRAM, IN A SANDBOX (cutbox-door.mjs). By AI agents, Wed Nov 11 2026. No macro, syntax, notation, axiom, sorry.
-/
import Derived.Test.YtpnfdngacipfgaaDoorRows
import GoSem.ClaimSeven
namespace Go.Proofs.YtpnfdngacipfgaaDoor
namespace Rows

/-- THE TIED CARD OF 'laws.FnSplit'. -/
def fnSplitCard : Claim7 := { stood := { row := fnSplitRow, standIns := [], harness := (true, "65f4a6749d8442d2a204786f1e3468e80da4f34526cc934d04f065b129b720ba"), looks := false }, kinds := [], alts := [], laidByText := true, laidKinds := [.wider, .data], laidTests := true, laidLooks := .later }
def FnSplitCardSaid : Prop := Claim7.holds Tryd.pinned (.plain (OpenSpec.ofChange fnSplitSpec)) fnSplitCard

/-- THE TIED CARD OF 'laws.FnExactLeafHash'. -/
def fnExactLeafHashCard : Claim7 := { stood := { row := fnExactLeafHashRow, standIns := [], harness := (true, "65f4a6749d8442d2a204786f1e3468e80da4f34526cc934d04f065b129b720ba"), looks := false }, kinds := [], alts := [], laidByText := true, laidKinds := [.wider, .data], laidTests := true, laidLooks := .later }
def FnExactLeafHashCardSaid : Prop := Claim7.holds Tryd.pinned (.plain (OpenSpec.ofChange fnExactLeafHashSpec)) fnExactLeafHashCard

/-- THE TIED CARD OF 'laws.FnExactNodeHash'. -/
def fnExactNodeHashCard : Claim7 := { stood := { row := fnExactNodeHashRow, standIns := [], harness := (true, "65f4a6749d8442d2a204786f1e3468e80da4f34526cc934d04f065b129b720ba"), looks := false }, kinds := [], alts := [], laidByText := true, laidKinds := [.wider, .data], laidTests := true, laidLooks := .later }
def FnExactNodeHashCardSaid : Prop := Claim7.holds Tryd.pinned (.plain (OpenSpec.ofChange fnExactNodeHashSpec)) fnExactNodeHashCard

/-- THE TIED CARD OF 'laws.FnExactTreeRoot'. -/
def fnExactTreeRootCard : Claim7 := { stood := { row := fnExactTreeRootRow, standIns := [], harness := (true, "65f4a6749d8442d2a204786f1e3468e80da4f34526cc934d04f065b129b720ba"), looks := false }, kinds := [], alts := [], laidByText := true, laidKinds := [.wider, .data], laidTests := true, laidLooks := .later }
def FnExactTreeRootCardSaid : Prop := Claim7.holds Tryd.pinned (.plain (OpenSpec.ofChange fnExactTreeRootSpec)) fnExactTreeRootCard

/-- THE SECOND FORM's CARD OF 'laws.FnSplit'. -/
def fnSplitUptoCard : Claim7 := { stood := { row := fnSplitUptoRow, standIns := [], harness := (true, "65f4a6749d8442d2a204786f1e3468e80da4f34526cc934d04f065b129b720ba"), looks := false }, kinds := [], alts := [], laidByText := true, laidKinds := [.wider, .data], laidTests := true, laidLooks := .later }
def FnSplitUptoCardSaid : Prop := Claim7.holds Tryd.pinned (.plain (OpenSpec.upto fnSplitSpec)) fnSplitUptoCard

/-- THE SECOND FORM's CARD OF 'laws.FnExactLeafHash'. -/
def fnExactLeafHashUptoCard : Claim7 := { stood := { row := fnExactLeafHashUptoRow, standIns := [], harness := (true, "65f4a6749d8442d2a204786f1e3468e80da4f34526cc934d04f065b129b720ba"), looks := false }, kinds := [], alts := [], laidByText := true, laidKinds := [.wider, .data], laidTests := true, laidLooks := .later }
def FnExactLeafHashUptoCardSaid : Prop := Claim7.holds Tryd.pinned (.plain (OpenSpec.upto fnExactLeafHashSpec)) fnExactLeafHashUptoCard

/-- THE SECOND FORM's CARD OF 'laws.FnExactNodeHash'. -/
def fnExactNodeHashUptoCard : Claim7 := { stood := { row := fnExactNodeHashUptoRow, standIns := [], harness := (true, "65f4a6749d8442d2a204786f1e3468e80da4f34526cc934d04f065b129b720ba"), looks := false }, kinds := [], alts := [], laidByText := true, laidKinds := [.wider, .data], laidTests := true, laidLooks := .later }
def FnExactNodeHashUptoCardSaid : Prop := Claim7.holds Tryd.pinned (.plain (OpenSpec.upto fnExactNodeHashSpec)) fnExactNodeHashUptoCard

/-- THE SECOND FORM's CARD OF 'laws.FnExactTreeRoot'. -/
def fnExactTreeRootUptoCard : Claim7 := { stood := { row := fnExactTreeRootUptoRow, standIns := [], harness := (true, "65f4a6749d8442d2a204786f1e3468e80da4f34526cc934d04f065b129b720ba"), looks := false }, kinds := [], alts := [], laidByText := true, laidKinds := [.wider, .data], laidTests := true, laidLooks := .later }
def FnExactTreeRootUptoCardSaid : Prop := Claim7.holds Tryd.pinned (.plain (OpenSpec.upto fnExactTreeRootSpec)) fnExactTreeRootUptoCard
end Rows
end Go.Proofs.YtpnfdngacipfgaaDoor
