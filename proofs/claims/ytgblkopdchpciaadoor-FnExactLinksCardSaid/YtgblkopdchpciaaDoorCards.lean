/-
  DERIVED. GIVEN WITH THE SEED: THE CARDS: each row of YtgblkopdchpciaaDoorRows.lean that lists a variable, with what it lists TIED to the program's text (the seventh form; the later family's looks); each row that meets fmt, with fmt's text TOLD by the authors' own Lean function (tested against real Go, not proved from fmt's source: count such statements apart). THE CARD IS WHAT COUNTS. Prove the row's statement (the work); the ties are given (YtgblkopdchpciaaDoorTie.lean); close each card by the builder's one call (the guide's Derived/Test/ToyasCard.lean, 'card_holds'). Laid BY PROGRAM, IN A SANDBOX (cutbox-door.mjs). By AI agents, Wed Nov 11 2026. No macro, syntax, notation, axiom, sorry.
-/
import Derived.Test.YtgblkopdchpciaaDoorRows
import GoSem.ClaimSeven
namespace Go.Proofs.YtgblkopdchpciaaDoor
namespace Rows

/-- THE TIED CARD OF 'laws.FnExactGetHead'. -/
def fnExactGetHeadCard : Claim7 := { stood := { row := fnExactGetHeadRow, standIns := [], harness := (true, "01e8c7c98d19a97dd6bbd1c0f6a18c83e86e3f732351d6b65812b3fad8c625dc"), looks := true }, kinds := [], alts := [], laidByText := true, laidKinds := [.handle], laidTests := true, laidLooks := .later }
def FnExactGetHeadCardSaid : Prop := Claim7.holds Tryd.pinned (.plain (OpenSpec.ofChange fnExactGetHeadSpec)) fnExactGetHeadCard

/-- THE TIED CARD OF 'laws.FnExactHeadHash'. -/
def fnExactHeadHashCard : Claim7 := { stood := { row := fnExactHeadHashRow, standIns := [], harness := (true, "01e8c7c98d19a97dd6bbd1c0f6a18c83e86e3f732351d6b65812b3fad8c625dc"), looks := true }, kinds := [], alts := [], laidByText := true, laidKinds := [.wider, .data], laidTests := true, laidLooks := .later }
def FnExactHeadHashCardSaid : Prop := Claim7.holds Tryd.pinned (.plain (OpenSpec.ofChange fnExactHeadHashSpec)) fnExactHeadHashCard

/-- THE TIED CARD OF 'laws.FnExactLinks'. -/
def fnExactLinksCard : Claim7 := { stood := { row := fnExactLinksRow, standIns := [], harness := (true, "01e8c7c98d19a97dd6bbd1c0f6a18c83e86e3f732351d6b65812b3fad8c625dc"), looks := true }, kinds := [], alts := [], laidByText := true, laidKinds := [.wider, .data], laidTests := true, laidLooks := .later }
def FnExactLinksCardSaid : Prop := Claim7.holds Tryd.pinned (.plain (OpenSpec.ofChange fnExactLinksSpec)) fnExactLinksCard

/-- THE SECOND FORM's CARD OF 'laws.FnExactGetHead'. -/
def fnExactGetHeadUptoCard : Claim7 := { stood := { row := fnExactGetHeadUptoRow, standIns := [], harness := (true, "01e8c7c98d19a97dd6bbd1c0f6a18c83e86e3f732351d6b65812b3fad8c625dc"), looks := true }, kinds := [], alts := [], laidByText := true, laidKinds := [.handle], laidTests := true, laidLooks := .later }
def FnExactGetHeadUptoCardSaid : Prop := Claim7.holds Tryd.pinned (.plain (OpenSpec.upto fnExactGetHeadSpec)) fnExactGetHeadUptoCard

/-- THE SECOND FORM's CARD OF 'laws.FnExactHeadHash'. -/
def fnExactHeadHashUptoCard : Claim7 := { stood := { row := fnExactHeadHashUptoRow, standIns := [], harness := (true, "01e8c7c98d19a97dd6bbd1c0f6a18c83e86e3f732351d6b65812b3fad8c625dc"), looks := true }, kinds := [], alts := [], laidByText := true, laidKinds := [.wider, .data], laidTests := true, laidLooks := .later }
def FnExactHeadHashUptoCardSaid : Prop := Claim7.holds Tryd.pinned (.plain (OpenSpec.upto fnExactHeadHashSpec)) fnExactHeadHashUptoCard

/-- THE SECOND FORM's CARD OF 'laws.FnExactLinks'. -/
def fnExactLinksUptoCard : Claim7 := { stood := { row := fnExactLinksUptoRow, standIns := [], harness := (true, "01e8c7c98d19a97dd6bbd1c0f6a18c83e86e3f732351d6b65812b3fad8c625dc"), looks := true }, kinds := [], alts := [], laidByText := true, laidKinds := [.wider, .data], laidTests := true, laidLooks := .later }
def FnExactLinksUptoCardSaid : Prop := Claim7.holds Tryd.pinned (.plain (OpenSpec.upto fnExactLinksSpec)) fnExactLinksUptoCard
end Rows
end Go.Proofs.YtgblkopdchpciaaDoor
