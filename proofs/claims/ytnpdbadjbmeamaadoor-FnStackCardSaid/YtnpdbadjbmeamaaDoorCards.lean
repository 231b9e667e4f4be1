/-
  DERIVED. GIVEN WITH THE SEED: THE CARDS: each row of YtnpdbadjbmeamaaDoorRows.lean that lists a variable, with what it lists TIED to the program's text (the seventh form; the later family's looks); each row that meets fmt, with fmt's text TOLD by the authors' own Lean function (tested against real Go, not proved from fmt's source: count such statements apart). THE CARD IS WHAT COUNTS. Prove the row's statement (the work); the ties are given (YtnpdbadjbmeamaaDoorTie.lean); close each card by the builder's one call (the guide's Derived/Test/ToyasCard.lean, 'card_holds'). Laid BY PROGRAM, IN A SANDBOX (cutbox-door.mjs). By AI agents, Wed Nov 11 2026. No macro, syntax, notation, axiom, sorry.
-/
import Derived.Test.YtnpdbadjbmeamaaDoorRows
import GoSem.ClaimSeven
namespace Go.Proofs.YtnpdbadjbmeamaaDoor
namespace Rows

/-- THE TIED CARD OF 'laws.FnStack'. -/
def fnStackCard : Claim7 := { stood := { row := fnStackRow, standIns := [], harness := (true, "62da9f0625bd7e9de335b9ce9a719223afb05251e3c43ffdb486c3b269ccca28"), looks := false }, kinds := [], alts := [], laidByText := true, laidKinds := [.wider, .data], laidTests := true, laidLooks := .later }
def FnStackCardSaid : Prop := Claim7.holds Tryd.pinned (.plain (OpenSpec.ofChange fnStackSpec)) fnStackCard

/-- THE TIED CARD OF 'laws.FnExactStackPush'. -/
def fnExactStackPushCard : Claim7 := { stood := { row := fnExactStackPushRow, standIns := [], harness := (true, "62da9f0625bd7e9de335b9ce9a719223afb05251e3c43ffdb486c3b269ccca28"), looks := false }, kinds := [], alts := [], laidByText := true, laidKinds := [.wider, .data], laidTests := true, laidLooks := .later }
def FnExactStackPushCardSaid : Prop := Claim7.holds Tryd.pinned (.plain (OpenSpec.ofChange fnExactStackPushSpec)) fnExactStackPushCard

/-- THE TIED CARD OF 'laws.FnExactStackRoot'. -/
def fnExactStackRootCard : Claim7 := { stood := { row := fnExactStackRootRow, standIns := [], harness := (true, "62da9f0625bd7e9de335b9ce9a719223afb05251e3c43ffdb486c3b269ccca28"), looks := false }, kinds := [], alts := [], laidByText := true, laidKinds := [.wider, .data], laidTests := true, laidLooks := .later }
def FnExactStackRootCardSaid : Prop := Claim7.holds Tryd.pinned (.plain (OpenSpec.ofChange fnExactStackRootSpec)) fnExactStackRootCard

/-- THE TIED CARD OF 'laws.FnExactStackOf'. -/
def fnExactStackOfCard : Claim7 := { stood := { row := fnExactStackOfRow, standIns := [], harness := (true, "62da9f0625bd7e9de335b9ce9a719223afb05251e3c43ffdb486c3b269ccca28"), looks := false }, kinds := [], alts := [], laidByText := true, laidKinds := [.wider, .data], laidTests := true, laidLooks := .later }
def FnExactStackOfCardSaid : Prop := Claim7.holds Tryd.pinned (.plain (OpenSpec.ofChange fnExactStackOfSpec)) fnExactStackOfCard

/-- THE SECOND FORM's CARD OF 'laws.FnStack'. -/
def fnStackUptoCard : Claim7 := { stood := { row := fnStackUptoRow, standIns := [], harness := (true, "62da9f0625bd7e9de335b9ce9a719223afb05251e3c43ffdb486c3b269ccca28"), looks := false }, kinds := [], alts := [], laidByText := true, laidKinds := [.wider, .data], laidTests := true, laidLooks := .later }
def FnStackUptoCardSaid : Prop := Claim7.holds Tryd.pinned (.plain (OpenSpec.upto fnStackSpec)) fnStackUptoCard

/-- THE SECOND FORM's CARD OF 'laws.FnExactStackPush'. -/
def fnExactStackPushUptoCard : Claim7 := { stood := { row := fnExactStackPushUptoRow, standIns := [], harness := (true, "62da9f0625bd7e9de335b9ce9a719223afb05251e3c43ffdb486c3b269ccca28"), looks := false }, kinds := [], alts := [], laidByText := true, laidKinds := [.wider, .data], laidTests := true, laidLooks := .later }
def FnExactStackPushUptoCardSaid : Prop := Claim7.holds Tryd.pinned (.plain (OpenSpec.upto fnExactStackPushSpec)) fnExactStackPushUptoCard

/-- THE SECOND FORM's CARD OF 'laws.FnExactStackRoot'. -/
def fnExactStackRootUptoCard : Claim7 := { stood := { row := fnExactStackRootUptoRow, standIns := [], harness := (true, "62da9f0625bd7e9de335b9ce9a719223afb05251e3c43ffdb486c3b269ccca28"), looks := false }, kinds := [], alts := [], laidByText := true, laidKinds := [.wider, .data], laidTests := true, laidLooks := .later }
def FnExactStackRootUptoCardSaid : Prop := Claim7.holds Tryd.pinned (.plain (OpenSpec.upto fnExactStackRootSpec)) fnExactStackRootUptoCard

/-- THE SECOND FORM's CARD OF 'laws.FnExactStackOf'. -/
def fnExactStackOfUptoCard : Claim7 := { stood := { row := fnExactStackOfUptoRow, standIns := [], harness := (true, "62da9f0625bd7e9de335b9ce9a719223afb05251e3c43ffdb486c3b269ccca28"), looks := false }, kinds := [], alts := [], laidByText := true, laidKinds := [.wider, .data], laidTests := true, laidLooks := .later }
def FnExactStackOfUptoCardSaid : Prop := Claim7.holds Tryd.pinned (.plain (OpenSpec.upto fnExactStackOfSpec)) fnExactStackOfUptoCard
end Rows
end Go.Proofs.YtnpdbadjbmeamaaDoor
