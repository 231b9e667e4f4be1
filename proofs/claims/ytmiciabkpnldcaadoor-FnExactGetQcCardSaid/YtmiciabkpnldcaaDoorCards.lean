/-
  DERIVED. GIVEN WITH THE SEED: THE CARDS: each row of YtmiciabkpnldcaaDoorRows.lean that lists a variable, with what it lists TIED to the program's text (the seventh form; the later family's looks); each row that meets fmt, with fmt's text TOLD by the authors' own Lean function (tested against real Go, not proved from fmt's source: count such statements apart). THE CARD IS WHAT COUNTS. Prove the row's statement (the work); the ties are given (YtmiciabkpnldcaaDoorTie.lean); close each card by the builder's one call (the guide's Derived/Test/ToyasCard.lean, 'card_holds'). Laid BY PROGRAM, IN A SANDBOX (cutbox-door.mjs). By AI agents, Wed Nov 11 2026. No macro, syntax, notation, axiom, sorry.
-/
import Derived.Test.YtmiciabkpnldcaaDoorRows
import GoSem.ClaimSeven
namespace Go.Proofs.YtmiciabkpnldcaaDoor
namespace Rows

/-- THE TIED CARD OF 'laws.FnExactGetQc'. -/
def fnExactGetQcCard : Claim7 := { stood := { row := fnExactGetQcRow, standIns := [], harness := (true, "592674a45badfbb56bfd4cac0c8c73ea670957284456c4f5fd63efb5095fa767"), looks := true }, kinds := [], alts := [], laidByText := true, laidKinds := [.handle], laidTests := true, laidLooks := .later }
def FnExactGetQcCardSaid : Prop := Claim7.holds Tryd.pinned (.plain (OpenSpec.ofChange fnExactGetQcSpec)) fnExactGetQcCard

/-- THE SECOND FORM's CARD OF 'laws.FnExactGetQc'. -/
def fnExactGetQcUptoCard : Claim7 := { stood := { row := fnExactGetQcUptoRow, standIns := [], harness := (true, "592674a45badfbb56bfd4cac0c8c73ea670957284456c4f5fd63efb5095fa767"), looks := true }, kinds := [], alts := [], laidByText := true, laidKinds := [.handle], laidTests := true, laidLooks := .later }
def FnExactGetQcUptoCardSaid : Prop := Claim7.holds Tryd.pinned (.plain (OpenSpec.upto fnExactGetQcSpec)) fnExactGetQcUptoCard
end Rows
end Go.Proofs.YtmiciabkpnldcaaDoor
