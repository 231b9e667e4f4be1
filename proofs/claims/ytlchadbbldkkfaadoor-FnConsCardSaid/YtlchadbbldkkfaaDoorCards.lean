/-
  DERIVED. GIVEN WITH THE SEED: THE CARDS: each row of YtlchadbbldkkfaaDoorRows.lean that lists a variable, with what it lists TIED to the program's text (the seventh form; the later family's looks); each row that meets fmt, with fmt's text TOLD by the authors' own Lean function (tested against real Go, not proved from fmt's source: count such statements apart). THE CARD IS WHAT COUNTS. Prove the row's statement (the work); the ties are given (YtlchadbbldkkfaaDoorTie.lean); close each card by the builder's one call (the guide's Derived/Test/ToyasCard.lean, 'card_holds'). Laid BY PROGRAM, IN A SANDBOX (cutbox-door.mjs). By AI agents, Wed Nov 11 2026. No macro, syntax, notation, axiom, sorry.
-/
import Derived.Test.YtlchadbbldkkfaaDoorRows
import GoSem.ClaimSeven
namespace Go.Proofs.YtlchadbbldkkfaaDoor
namespace Rows

/-- THE TIED CARD OF 'laws.FnPath'. -/
def fnPathCard : Claim7 := { stood := { row := fnPathRow, standIns := [], harness := (true, "e4ae7dcae0b5152dc2e1847d5df3c753b2caf4e5e56f79b008a98c1b22edfa5a"), looks := false }, kinds := [], alts := [], laidByText := true, laidKinds := [.wider, .data], laidTests := true, laidLooks := .later }
def FnPathCardSaid : Prop := Claim7.holds Tryd.pinned (.plain (OpenSpec.ofChange fnPathSpec)) fnPathCard

/-- THE TIED CARD OF 'laws.FnCons'. -/
def fnConsCard : Claim7 := { stood := { row := fnConsRow, standIns := [], harness := (true, "e4ae7dcae0b5152dc2e1847d5df3c753b2caf4e5e56f79b008a98c1b22edfa5a"), looks := false }, kinds := [], alts := [], laidByText := true, laidKinds := [.wider, .data], laidTests := true, laidLooks := .later }
def FnConsCardSaid : Prop := Claim7.holds Tryd.pinned (.plain (OpenSpec.ofChange fnConsSpec)) fnConsCard

/-- THE TIED CARD OF 'laws.FnExactPathRoot'. -/
def fnExactPathRootCard : Claim7 := { stood := { row := fnExactPathRootRow, standIns := [], harness := (true, "e4ae7dcae0b5152dc2e1847d5df3c753b2caf4e5e56f79b008a98c1b22edfa5a"), looks := false }, kinds := [], alts := [], laidByText := true, laidKinds := [.wider, .data], laidTests := true, laidLooks := .later }
def FnExactPathRootCardSaid : Prop := Claim7.holds Tryd.pinned (.plain (OpenSpec.ofChange fnExactPathRootSpec)) fnExactPathRootCard

/-- THE TIED CARD OF 'laws.FnExactPathOk'. -/
def fnExactPathOkCard : Claim7 := { stood := { row := fnExactPathOkRow, standIns := [], harness := (true, "e4ae7dcae0b5152dc2e1847d5df3c753b2caf4e5e56f79b008a98c1b22edfa5a"), looks := false }, kinds := [], alts := [], laidByText := true, laidKinds := [.wider, .data], laidTests := true, laidLooks := .later }
def FnExactPathOkCardSaid : Prop := Claim7.holds Tryd.pinned (.plain (OpenSpec.ofChange fnExactPathOkSpec)) fnExactPathOkCard

/-- THE TIED CARD OF 'laws.FnExactConsOf'. -/
def fnExactConsOfCard : Claim7 := { stood := { row := fnExactConsOfRow, standIns := [], harness := (true, "e4ae7dcae0b5152dc2e1847d5df3c753b2caf4e5e56f79b008a98c1b22edfa5a"), looks := false }, kinds := [], alts := [], laidByText := true, laidKinds := [.wider, .data], laidTests := true, laidLooks := .later }
def FnExactConsOfCardSaid : Prop := Claim7.holds Tryd.pinned (.plain (OpenSpec.ofChange fnExactConsOfSpec)) fnExactConsOfCard

/-- THE TIED CARD OF 'laws.FnExactConsRoots'. -/
def fnExactConsRootsCard : Claim7 := { stood := { row := fnExactConsRootsRow, standIns := [], harness := (true, "e4ae7dcae0b5152dc2e1847d5df3c753b2caf4e5e56f79b008a98c1b22edfa5a"), looks := false }, kinds := [], alts := [], laidByText := true, laidKinds := [.wider, .data], laidTests := true, laidLooks := .later }
def FnExactConsRootsCardSaid : Prop := Claim7.holds Tryd.pinned (.plain (OpenSpec.ofChange fnExactConsRootsSpec)) fnExactConsRootsCard

/-- THE TIED CARD OF 'laws.FnExactConsOk'. -/
def fnExactConsOkCard : Claim7 := { stood := { row := fnExactConsOkRow, standIns := [], harness := (true, "e4ae7dcae0b5152dc2e1847d5df3c753b2caf4e5e56f79b008a98c1b22edfa5a"), looks := false }, kinds := [], alts := [], laidByText := true, laidKinds := [.wider, .data], laidTests := true, laidLooks := .later }
def FnExactConsOkCardSaid : Prop := Claim7.holds Tryd.pinned (.plain (OpenSpec.ofChange fnExactConsOkSpec)) fnExactConsOkCard

/-- THE SECOND FORM's CARD OF 'laws.FnPath'. -/
def fnPathUptoCard : Claim7 := { stood := { row := fnPathUptoRow, standIns := [], harness := (true, "e4ae7dcae0b5152dc2e1847d5df3c753b2caf4e5e56f79b008a98c1b22edfa5a"), looks := false }, kinds := [], alts := [], laidByText := true, laidKinds := [.wider, .data], laidTests := true, laidLooks := .later }
def FnPathUptoCardSaid : Prop := Claim7.holds Tryd.pinned (.plain (OpenSpec.upto fnPathSpec)) fnPathUptoCard

/-- THE SECOND FORM's CARD OF 'laws.FnCons'. -/
def fnConsUptoCard : Claim7 := { stood := { row := fnConsUptoRow, standIns := [], harness := (true, "e4ae7dcae0b5152dc2e1847d5df3c753b2caf4e5e56f79b008a98c1b22edfa5a"), looks := false }, kinds := [], alts := [], laidByText := true, laidKinds := [.wider, .data], laidTests := true, laidLooks := .later }
def FnConsUptoCardSaid : Prop := Claim7.holds Tryd.pinned (.plain (OpenSpec.upto fnConsSpec)) fnConsUptoCard

/-- THE SECOND FORM's CARD OF 'laws.FnExactPathRoot'. -/
def fnExactPathRootUptoCard : Claim7 := { stood := { row := fnExactPathRootUptoRow, standIns := [], harness := (true, "e4ae7dcae0b5152dc2e1847d5df3c753b2caf4e5e56f79b008a98c1b22edfa5a"), looks := false }, kinds := [], alts := [], laidByText := true, laidKinds := [.wider, .data], laidTests := true, laidLooks := .later }
def FnExactPathRootUptoCardSaid : Prop := Claim7.holds Tryd.pinned (.plain (OpenSpec.upto fnExactPathRootSpec)) fnExactPathRootUptoCard

/-- THE SECOND FORM's CARD OF 'laws.FnExactPathOk'. -/
def fnExactPathOkUptoCard : Claim7 := { stood := { row := fnExactPathOkUptoRow, standIns := [], harness := (true, "e4ae7dcae0b5152dc2e1847d5df3c753b2caf4e5e56f79b008a98c1b22edfa5a"), looks := false }, kinds := [], alts := [], laidByText := true, laidKinds := [.wider, .data], laidTests := true, laidLooks := .later }
def FnExactPathOkUptoCardSaid : Prop := Claim7.holds Tryd.pinned (.plain (OpenSpec.upto fnExactPathOkSpec)) fnExactPathOkUptoCard

/-- THE SECOND FORM's CARD OF 'laws.FnExactConsOf'. -/
def fnExactConsOfUptoCard : Claim7 := { stood := { row := fnExactConsOfUptoRow, standIns := [], harness := (true, "e4ae7dcae0b5152dc2e1847d5df3c753b2caf4e5e56f79b008a98c1b22edfa5a"), looks := false }, kinds := [], alts := [], laidByText := true, laidKinds := [.wider, .data], laidTests := true, laidLooks := .later }
def FnExactConsOfUptoCardSaid : Prop := Claim7.holds Tryd.pinned (.plain (OpenSpec.upto fnExactConsOfSpec)) fnExactConsOfUptoCard

/-- THE SECOND FORM's CARD OF 'laws.FnExactConsRoots'. -/
def fnExactConsRootsUptoCard : Claim7 := { stood := { row := fnExactConsRootsUptoRow, standIns := [], harness := (true, "e4ae7dcae0b5152dc2e1847d5df3c753b2caf4e5e56f79b008a98c1b22edfa5a"), looks := false }, kinds := [], alts := [], laidByText := true, laidKinds := [.wider, .data], laidTests := true, laidLooks := .later }
def FnExactConsRootsUptoCardSaid : Prop := Claim7.holds Tryd.pinned (.plain (OpenSpec.upto fnExactConsRootsSpec)) fnExactConsRootsUptoCard

/-- THE SECOND FORM's CARD OF 'laws.FnExactConsOk'. -/
def fnExactConsOkUptoCard : Claim7 := { stood := { row := fnExactConsOkUptoRow, standIns := [], harness := (true, "e4ae7dcae0b5152dc2e1847d5df3c753b2caf4e5e56f79b008a98c1b22edfa5a"), looks := false }, kinds := [], alts := [], laidByText := true, laidKinds := [.wider, .data], laidTests := true, laidLooks := .later }
def FnExactConsOkUptoCardSaid : Prop := Claim7.holds Tryd.pinned (.plain (OpenSpec.upto fnExactConsOkSpec)) fnExactConsOkUptoCard
end Rows
end Go.Proofs.YtlchadbbldkkfaaDoor
