/-
  DERIVED. GIVEN WITH THE SEED: THE CARDS: each row of YtcamaeipbbdhlaaDoorRows.lean that lists a variable, with what it lists TIED to the program's text (the seventh form; the later family's looks); each row that meets fmt, with fmt's text TOLD by the authors' own Lean function (tested against real Go, not proved from fmt's source: count such statements apart). THE CARD IS WHAT COUNTS. Prove the row's statement (the work); the ties are given (YtcamaeipbbdhlaaDoorTie.lean); close each card by the builder's one call (the guide's Derived/Test/ToyasCard.lean, 'card_holds'). Laid BY PROGRAM, IN A SANDBOX (cutbox-door.mjs). By AI agents, Wed Nov 11 2026. No macro, syntax, notation, axiom, sorry.
-/
import Derived.Test.YtcamaeipbbdhlaaDoorRows
import GoSem.ClaimSeven
namespace Go.Proofs.YtcamaeipbbdhlaaDoor
namespace Rows

/-- THE TIED CARD OF 'laws.FnExactGetVote'. -/
def fnExactGetVoteCard : Claim7 := { stood := { row := fnExactGetVoteRow, standIns := [], harness := (true, "c1b024228f7d55031e19db3b4bd3de3ff7be5d79d008af2ef68eb5ea44ca50d7"), looks := true }, kinds := [], alts := [], laidByText := true, laidKinds := [.handle], laidTests := true, laidLooks := .later }
def FnExactGetVoteCardSaid : Prop := Claim7.holds Tryd.pinned (.plain (OpenSpec.ofChange fnExactGetVoteSpec)) fnExactGetVoteCard

/-- THE SECOND FORM's CARD OF 'laws.FnExactGetVote'. -/
def fnExactGetVoteUptoCard : Claim7 := { stood := { row := fnExactGetVoteUptoRow, standIns := [], harness := (true, "c1b024228f7d55031e19db3b4bd3de3ff7be5d79d008af2ef68eb5ea44ca50d7"), looks := true }, kinds := [], alts := [], laidByText := true, laidKinds := [.handle], laidTests := true, laidLooks := .later }
def FnExactGetVoteUptoCardSaid : Prop := Claim7.holds Tryd.pinned (.plain (OpenSpec.upto fnExactGetVoteSpec)) fnExactGetVoteUptoCard
end Rows
end Go.Proofs.YtcamaeipbbdhlaaDoor
