/-
  DERIVED. GIVEN WITH THE SEED: THE CARDS: each row of YtnlpmhofikoaaaaDoorRows.lean that lists a variable, with what it lists TIED to the program's text (the seventh form; the later family's looks); each row that meets fmt, with fmt's text TOLD by the authors' own Lean function (tested against real Go, not proved from fmt's source: count such statements apart). THE CARD IS WHAT COUNTS. Prove the row's statement (the work); the ties are given (YtnlpmhofikoaaaaDoorTie.lean); close each card by the builder's one call (the guide's Derived/Test/ToyasCard.lean, 'card_holds'). Laid BY PROGRAM, IN A SANDBOX (cutbox-door.mjs). By AI agents, Wed Nov 11 2026. No macro, syntax, notation, axiom, sorry.
-/
import Derived.Test.YtnlpmhofikoaaaaDoorRows
import GoSem.ClaimSeven
namespace Go.Proofs.YtnlpmhofikoaaaaDoor
namespace Rows

/-- THE TIED CARD OF 'laws.FnSha'. -/
def fnShaCard : Claim7 := { stood := { row := fnShaRow, standIns := [], harness := (true, "3a6c08a8275b7acf8798fd4f9fc4bcf210d72c5b48114b4a005121f045ecb93b"), looks := false }, kinds := [], alts := [], laidByText := true, laidKinds := [.wider, .data], laidTests := true, laidLooks := .later }
def FnShaCardSaid : Prop := Claim7.holds Tryd.pinned (.plain (OpenSpec.ofChange fnShaSpec)) fnShaCard

/-- THE TIED CARD OF 'laws.FnExactMacKey'. -/
def fnExactMacKeyCard : Claim7 := { stood := { row := fnExactMacKeyRow, standIns := [], harness := (true, "3a6c08a8275b7acf8798fd4f9fc4bcf210d72c5b48114b4a005121f045ecb93b"), looks := false }, kinds := [], alts := [], laidByText := true, laidKinds := [.wider, .data], laidTests := true, laidLooks := .later }
def FnExactMacKeyCardSaid : Prop := Claim7.holds Tryd.pinned (.plain (OpenSpec.ofChange fnExactMacKeySpec)) fnExactMacKeyCard

/-- THE TIED CARD OF 'laws.FnExactMac'. -/
def fnExactMacCard : Claim7 := { stood := { row := fnExactMacRow, standIns := [], harness := (true, "3a6c08a8275b7acf8798fd4f9fc4bcf210d72c5b48114b4a005121f045ecb93b"), looks := false }, kinds := [], alts := [], laidByText := true, laidKinds := [.wider, .data], laidTests := true, laidLooks := .later }
def FnExactMacCardSaid : Prop := Claim7.holds Tryd.pinned (.plain (OpenSpec.ofChange fnExactMacSpec)) fnExactMacCard

/-- THE TIED CARD OF 'laws.FnExactMacOk'. -/
def fnExactMacOkCard : Claim7 := { stood := { row := fnExactMacOkRow, standIns := [], harness := (true, "3a6c08a8275b7acf8798fd4f9fc4bcf210d72c5b48114b4a005121f045ecb93b"), looks := false }, kinds := [], alts := [], laidByText := true, laidKinds := [.wider, .data], laidTests := true, laidLooks := .later }
def FnExactMacOkCardSaid : Prop := Claim7.holds Tryd.pinned (.plain (OpenSpec.ofChange fnExactMacOkSpec)) fnExactMacOkCard

/-- THE SECOND FORM's CARD OF 'laws.FnSha'. -/
def fnShaUptoCard : Claim7 := { stood := { row := fnShaUptoRow, standIns := [], harness := (true, "3a6c08a8275b7acf8798fd4f9fc4bcf210d72c5b48114b4a005121f045ecb93b"), looks := false }, kinds := [], alts := [], laidByText := true, laidKinds := [.wider, .data], laidTests := true, laidLooks := .later }
def FnShaUptoCardSaid : Prop := Claim7.holds Tryd.pinned (.plain (OpenSpec.upto fnShaSpec)) fnShaUptoCard

/-- THE SECOND FORM's CARD OF 'laws.FnExactMacKey'. -/
def fnExactMacKeyUptoCard : Claim7 := { stood := { row := fnExactMacKeyUptoRow, standIns := [], harness := (true, "3a6c08a8275b7acf8798fd4f9fc4bcf210d72c5b48114b4a005121f045ecb93b"), looks := false }, kinds := [], alts := [], laidByText := true, laidKinds := [.wider, .data], laidTests := true, laidLooks := .later }
def FnExactMacKeyUptoCardSaid : Prop := Claim7.holds Tryd.pinned (.plain (OpenSpec.upto fnExactMacKeySpec)) fnExactMacKeyUptoCard

/-- THE SECOND FORM's CARD OF 'laws.FnExactMac'. -/
def fnExactMacUptoCard : Claim7 := { stood := { row := fnExactMacUptoRow, standIns := [], harness := (true, "3a6c08a8275b7acf8798fd4f9fc4bcf210d72c5b48114b4a005121f045ecb93b"), looks := false }, kinds := [], alts := [], laidByText := true, laidKinds := [.wider, .data], laidTests := true, laidLooks := .later }
def FnExactMacUptoCardSaid : Prop := Claim7.holds Tryd.pinned (.plain (OpenSpec.upto fnExactMacSpec)) fnExactMacUptoCard

/-- THE SECOND FORM's CARD OF 'laws.FnExactMacOk'. -/
def fnExactMacOkUptoCard : Claim7 := { stood := { row := fnExactMacOkUptoRow, standIns := [], harness := (true, "3a6c08a8275b7acf8798fd4f9fc4bcf210d72c5b48114b4a005121f045ecb93b"), looks := false }, kinds := [], alts := [], laidByText := true, laidKinds := [.wider, .data], laidTests := true, laidLooks := .later }
def FnExactMacOkUptoCardSaid : Prop := Claim7.holds Tryd.pinned (.plain (OpenSpec.upto fnExactMacOkSpec)) fnExactMacOkUptoCard
end Rows
end Go.Proofs.YtnlpmhofikoaaaaDoor
