/-
  DERIVED. GIVEN WITH THE SEED: THE CARDS: each row of YtopbalemfljphaaDoorRows.lean that lists a variable, with what it lists TIED to the program's text (the seventh form; the later family's looks); each row that meets fmt, with fmt's text TOLD by the authors' own Lean function (tested against real Go, not proved from fmt's source: count such statements apart). THE CARD IS WHAT COUNTS. Prove the row's statement (the work); the ties are given (YtopbalemfljphaaDoorTie.lean); close each card by the builder's one call (the guide's Derived/Test/ToyasCard.lean, 'card_holds'). Laid BY PROGRAM, IN A SANDBOX (cutbox-door.mjs). By AI agents, Wed Nov 11 2026. No macro, syntax, notation, axiom, sorry.
-/
import Derived.Test.YtopbalemfljphaaDoorRows
import GoSem.ClaimSeven
namespace Go.Proofs.YtopbalemfljphaaDoor
namespace Rows

/-- THE TIED CARD OF 'laws.FnExactGetProof'. -/
def fnExactGetProofCard : Claim7 := { stood := { row := fnExactGetProofRow, standIns := [], harness := (true, "bfb054a01bed003d4f32d7f5e903ed4a13b6d84afe4c53799493787c8a6b0016"), looks := true }, kinds := [], alts := [], laidByText := true, laidKinds := [.handle], laidTests := true, laidLooks := .later }
def FnExactGetProofCardSaid : Prop := Claim7.holds Tryd.pinned (.plain (OpenSpec.ofChange fnExactGetProofSpec)) fnExactGetProofCard

/-- THE TIED CARD OF 'laws.FnExactGetIncl'. -/
def fnExactGetInclCard : Claim7 := { stood := { row := fnExactGetInclRow, standIns := [], harness := (true, "bfb054a01bed003d4f32d7f5e903ed4a13b6d84afe4c53799493787c8a6b0016"), looks := true }, kinds := [], alts := [], laidByText := true, laidKinds := [.handle], laidTests := true, laidLooks := .later }
def FnExactGetInclCardSaid : Prop := Claim7.holds Tryd.pinned (.plain (OpenSpec.ofChange fnExactGetInclSpec)) fnExactGetInclCard

/-- THE SECOND FORM's CARD OF 'laws.FnExactGetProof'. -/
def fnExactGetProofUptoCard : Claim7 := { stood := { row := fnExactGetProofUptoRow, standIns := [], harness := (true, "bfb054a01bed003d4f32d7f5e903ed4a13b6d84afe4c53799493787c8a6b0016"), looks := true }, kinds := [], alts := [], laidByText := true, laidKinds := [.handle], laidTests := true, laidLooks := .later }
def FnExactGetProofUptoCardSaid : Prop := Claim7.holds Tryd.pinned (.plain (OpenSpec.upto fnExactGetProofSpec)) fnExactGetProofUptoCard

/-- THE SECOND FORM's CARD OF 'laws.FnExactGetIncl'. -/
def fnExactGetInclUptoCard : Claim7 := { stood := { row := fnExactGetInclUptoRow, standIns := [], harness := (true, "bfb054a01bed003d4f32d7f5e903ed4a13b6d84afe4c53799493787c8a6b0016"), looks := true }, kinds := [], alts := [], laidByText := true, laidKinds := [.handle], laidTests := true, laidLooks := .later }
def FnExactGetInclUptoCardSaid : Prop := Claim7.holds Tryd.pinned (.plain (OpenSpec.upto fnExactGetInclSpec)) fnExactGetInclUptoCard
end Rows
end Go.Proofs.YtopbalemfljphaaDoor
