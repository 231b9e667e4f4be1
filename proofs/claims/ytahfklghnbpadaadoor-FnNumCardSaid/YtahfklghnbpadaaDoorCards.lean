/-
  DERIVED. GIVEN WITH THE SEED: THE CARDS: each row of YtahfklghnbpadaaDoorRows.lean that lists a variable, with what it lists TIED to the program's text (the seventh form; the later family's looks); each row that meets fmt, with fmt's text TOLD by the authors' own Lean function (tested against real Go, not proved from fmt's source: count such statements apart). THE CARD IS WHAT COUNTS. Prove the row's statement (the work); the ties are given (YtahfklghnbpadaaDoorTie.lean); close each card by the builder's one call (the guide's Derived/Test/ToyasCard.lean, 'card_holds'). Laid BY PROGRAM, IN A SANDBOX (cutbox-door.mjs). By AI agents, Wed Nov 11 2026. No macro, syntax, notation, axiom, sorry.
-/
import Derived.Test.YtahfklghnbpadaaDoorRows
import GoSem.ClaimSeven
namespace Go.Proofs.YtahfklghnbpadaaDoor
namespace Rows

/-- THE TIED CARD OF 'laws.FnNum'. -/
def fnNumCard : Claim7 := { stood := { row := fnNumRow, standIns := [], harness := (true, "132067a2a0d8dea1095169056790250c14df1f335e66349bc62ebdf1dd355ae7"), looks := true }, kinds := [], alts := [], laidByText := true, laidKinds := [.data, .data, .data, .handle, .sentinel, .sentinel], laidTests := true, laidLooks := .later }
def FnNumCardSaid : Prop := Claim7.holds Tryd.pinned (.plain (OpenSpec.ofChange fnNumSpec)) fnNumCard

/-- THE TIED CARD OF 'laws.FnExactGetVar'. -/
def fnExactGetVarCard : Claim7 := { stood := { row := fnExactGetVarRow, standIns := [], harness := (true, "132067a2a0d8dea1095169056790250c14df1f335e66349bc62ebdf1dd355ae7"), looks := true }, kinds := [], alts := [], laidByText := true, laidKinds := [.handle], laidTests := true, laidLooks := .later }
def FnExactGetVarCardSaid : Prop := Claim7.holds Tryd.pinned (.plain (OpenSpec.ofChange fnExactGetVarSpec)) fnExactGetVarCard

/-- THE TIED CARD OF 'laws.FnExactGetFix'. -/
def fnExactGetFixCard : Claim7 := { stood := { row := fnExactGetFixRow, standIns := [], harness := (true, "132067a2a0d8dea1095169056790250c14df1f335e66349bc62ebdf1dd355ae7"), looks := true }, kinds := [], alts := [], laidByText := true, laidKinds := [.handle], laidTests := true, laidLooks := .later }
def FnExactGetFixCardSaid : Prop := Claim7.holds Tryd.pinned (.plain (OpenSpec.ofChange fnExactGetFixSpec)) fnExactGetFixCard

/-- THE TIED CARD OF 'laws.FnExactGetRaw'. -/
def fnExactGetRawCard : Claim7 := { stood := { row := fnExactGetRawRow, standIns := [], harness := (true, "132067a2a0d8dea1095169056790250c14df1f335e66349bc62ebdf1dd355ae7"), looks := true }, kinds := [], alts := [], laidByText := true, laidKinds := [.handle], laidTests := true, laidLooks := .later }
def FnExactGetRawCardSaid : Prop := Claim7.holds Tryd.pinned (.plain (OpenSpec.ofChange fnExactGetRawSpec)) fnExactGetRawCard

/-- THE TIED CARD OF 'laws.FnExactGetText'. -/
def fnExactGetTextCard : Claim7 := { stood := { row := fnExactGetTextRow, standIns := [], harness := (true, "132067a2a0d8dea1095169056790250c14df1f335e66349bc62ebdf1dd355ae7"), looks := true }, kinds := [], alts := [], laidByText := true, laidKinds := [.handle], laidTests := true, laidLooks := .later }
def FnExactGetTextCardSaid : Prop := Claim7.holds Tryd.pinned (.plain (OpenSpec.ofChange fnExactGetTextSpec)) fnExactGetTextCard

/-- THE TIED CARD OF 'laws.FnExactNumText'. -/
def fnExactNumTextCard : Claim7 := { stood := { row := fnExactNumTextRow, standIns := [], harness := (true, "132067a2a0d8dea1095169056790250c14df1f335e66349bc62ebdf1dd355ae7"), looks := true }, kinds := [], alts := [], laidByText := true, laidKinds := [.data, .data, .data], laidTests := true, laidLooks := .later }
def FnExactNumTextCardSaid : Prop := Claim7.holds Tryd.pinned (.plain (OpenSpec.ofChange fnExactNumTextSpec)) fnExactNumTextCard

/-- THE TIED CARD OF 'laws.FnExactTextNum'. -/
def fnExactTextNumCard : Claim7 := { stood := { row := fnExactTextNumRow, standIns := [], harness := (true, "132067a2a0d8dea1095169056790250c14df1f335e66349bc62ebdf1dd355ae7"), looks := true }, kinds := [], alts := [], laidByText := true, laidKinds := [.data, .data, .data, .sentinel, .sentinel], laidTests := true, laidLooks := .later }
def FnExactTextNumCardSaid : Prop := Claim7.holds Tryd.pinned (.plain (OpenSpec.ofChange fnExactTextNumSpec)) fnExactTextNumCard

/-- THE SECOND FORM's CARD OF 'laws.FnNum'. -/
def fnNumUptoCard : Claim7 := { stood := { row := fnNumUptoRow, standIns := [], harness := (true, "132067a2a0d8dea1095169056790250c14df1f335e66349bc62ebdf1dd355ae7"), looks := true }, kinds := [], alts := [], laidByText := true, laidKinds := [.data, .data, .data, .handle, .sentinel, .sentinel], laidTests := true, laidLooks := .later }
def FnNumUptoCardSaid : Prop := Claim7.holds Tryd.pinned (.plain (OpenSpec.upto fnNumSpec)) fnNumUptoCard

/-- THE SECOND FORM's CARD OF 'laws.FnExactGetVar'. -/
def fnExactGetVarUptoCard : Claim7 := { stood := { row := fnExactGetVarUptoRow, standIns := [], harness := (true, "132067a2a0d8dea1095169056790250c14df1f335e66349bc62ebdf1dd355ae7"), looks := true }, kinds := [], alts := [], laidByText := true, laidKinds := [.handle], laidTests := true, laidLooks := .later }
def FnExactGetVarUptoCardSaid : Prop := Claim7.holds Tryd.pinned (.plain (OpenSpec.upto fnExactGetVarSpec)) fnExactGetVarUptoCard

/-- THE SECOND FORM's CARD OF 'laws.FnExactGetFix'. -/
def fnExactGetFixUptoCard : Claim7 := { stood := { row := fnExactGetFixUptoRow, standIns := [], harness := (true, "132067a2a0d8dea1095169056790250c14df1f335e66349bc62ebdf1dd355ae7"), looks := true }, kinds := [], alts := [], laidByText := true, laidKinds := [.handle], laidTests := true, laidLooks := .later }
def FnExactGetFixUptoCardSaid : Prop := Claim7.holds Tryd.pinned (.plain (OpenSpec.upto fnExactGetFixSpec)) fnExactGetFixUptoCard

/-- THE SECOND FORM's CARD OF 'laws.FnExactGetRaw'. -/
def fnExactGetRawUptoCard : Claim7 := { stood := { row := fnExactGetRawUptoRow, standIns := [], harness := (true, "132067a2a0d8dea1095169056790250c14df1f335e66349bc62ebdf1dd355ae7"), looks := true }, kinds := [], alts := [], laidByText := true, laidKinds := [.handle], laidTests := true, laidLooks := .later }
def FnExactGetRawUptoCardSaid : Prop := Claim7.holds Tryd.pinned (.plain (OpenSpec.upto fnExactGetRawSpec)) fnExactGetRawUptoCard

/-- THE SECOND FORM's CARD OF 'laws.FnExactGetText'. -/
def fnExactGetTextUptoCard : Claim7 := { stood := { row := fnExactGetTextUptoRow, standIns := [], harness := (true, "132067a2a0d8dea1095169056790250c14df1f335e66349bc62ebdf1dd355ae7"), looks := true }, kinds := [], alts := [], laidByText := true, laidKinds := [.handle], laidTests := true, laidLooks := .later }
def FnExactGetTextUptoCardSaid : Prop := Claim7.holds Tryd.pinned (.plain (OpenSpec.upto fnExactGetTextSpec)) fnExactGetTextUptoCard

/-- THE SECOND FORM's CARD OF 'laws.FnExactNumText'. -/
def fnExactNumTextUptoCard : Claim7 := { stood := { row := fnExactNumTextUptoRow, standIns := [], harness := (true, "132067a2a0d8dea1095169056790250c14df1f335e66349bc62ebdf1dd355ae7"), looks := true }, kinds := [], alts := [], laidByText := true, laidKinds := [.data, .data, .data], laidTests := true, laidLooks := .later }
def FnExactNumTextUptoCardSaid : Prop := Claim7.holds Tryd.pinned (.plain (OpenSpec.upto fnExactNumTextSpec)) fnExactNumTextUptoCard

/-- THE SECOND FORM's CARD OF 'laws.FnExactTextNum'. -/
def fnExactTextNumUptoCard : Claim7 := { stood := { row := fnExactTextNumUptoRow, standIns := [], harness := (true, "132067a2a0d8dea1095169056790250c14df1f335e66349bc62ebdf1dd355ae7"), looks := true }, kinds := [], alts := [], laidByText := true, laidKinds := [.data, .data, .data, .sentinel, .sentinel], laidTests := true, laidLooks := .later }
def FnExactTextNumUptoCardSaid : Prop := Claim7.holds Tryd.pinned (.plain (OpenSpec.upto fnExactTextNumSpec)) fnExactTextNumUptoCard
end Rows
end Go.Proofs.YtahfklghnbpadaaDoor
