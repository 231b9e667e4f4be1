/-
  DERIVED. GIVEN WITH THE SEED: THE CARDS: each row of YtemjagdlbehboaaDoorRows.lean that lists a variable, with what it lists TIED to the program's text (the seventh form; the later family's looks); each row that meets fmt, with fmt's text TOLD by the authors' own Lean function (tested against real Go, not proved from fmt's source: count such statements apart). THE CARD IS WHAT COUNTS. Prove the row's statement (the work); the ties are given (YtemjagdlbehboaaDoorTie.lean); close each card by the builder's one call (the guide's Derived/Test/ToyasCard.lean, 'card_holds'). Laid BY PROGRAM, IN A SANDBOX (cutbox-door.mjs). By AI agents, Wed Nov 11 2026. No macro, syntax, notation, axiom, sorry.
-/
import Derived.Test.YtemjagdlbehboaaDoorRows
import GoSem.ClaimSeven
namespace Go.Proofs.YtemjagdlbehboaaDoor
namespace Rows

/-- THE TIED CARD OF 'laws.FnExactLimitsText'. -/
def fnExactLimitsTextCard : Claim7 := { stood := { row := fnExactLimitsTextRow, standIns := [], harness := (true, "c316474a336715dc44bacdf8e997fd51359c41c76e5222342984d31d00c764ee"), looks := true }, kinds := [], alts := [], laidByText := true, laidKinds := [.data, .data, .data], laidTests := true, laidLooks := .later }
def FnExactLimitsTextCardSaid : Prop := Claim7.holds Tryd.pinned (.plain (OpenSpec.ofChange fnExactLimitsTextSpec)) fnExactLimitsTextCard

/-- THE TIED CARD OF 'laws.FnExactTextLimits'. -/
def fnExactTextLimitsCard : Claim7 := { stood := { row := fnExactTextLimitsRow, standIns := [], harness := (true, "c316474a336715dc44bacdf8e997fd51359c41c76e5222342984d31d00c764ee"), looks := true }, kinds := [], alts := [], laidByText := true, laidKinds := [.data, .data, .data, .sentinel, .sentinel], laidTests := true, laidLooks := .later }
def FnExactTextLimitsCardSaid : Prop := Claim7.holds Tryd.pinned (.plain (OpenSpec.ofChange fnExactTextLimitsSpec)) fnExactTextLimitsCard

/-- THE SECOND FORM's CARD OF 'laws.FnExactLimitsText'. -/
def fnExactLimitsTextUptoCard : Claim7 := { stood := { row := fnExactLimitsTextUptoRow, standIns := [], harness := (true, "c316474a336715dc44bacdf8e997fd51359c41c76e5222342984d31d00c764ee"), looks := true }, kinds := [], alts := [], laidByText := true, laidKinds := [.data, .data, .data], laidTests := true, laidLooks := .later }
def FnExactLimitsTextUptoCardSaid : Prop := Claim7.holds Tryd.pinned (.plain (OpenSpec.upto fnExactLimitsTextSpec)) fnExactLimitsTextUptoCard

/-- THE SECOND FORM's CARD OF 'laws.FnExactTextLimits'. -/
def fnExactTextLimitsUptoCard : Claim7 := { stood := { row := fnExactTextLimitsUptoRow, standIns := [], harness := (true, "c316474a336715dc44bacdf8e997fd51359c41c76e5222342984d31d00c764ee"), looks := true }, kinds := [], alts := [], laidByText := true, laidKinds := [.data, .data, .data, .sentinel, .sentinel], laidTests := true, laidLooks := .later }
def FnExactTextLimitsUptoCardSaid : Prop := Claim7.holds Tryd.pinned (.plain (OpenSpec.upto fnExactTextLimitsSpec)) fnExactTextLimitsUptoCard
end Rows
end Go.Proofs.YtemjagdlbehboaaDoor
