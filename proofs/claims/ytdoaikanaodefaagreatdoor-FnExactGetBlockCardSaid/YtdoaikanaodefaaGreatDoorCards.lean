/-
  DERIVED. GIVEN WITH THE SEED: THE CARDS: each row of YtdoaikanaodefaaGreatDoorRows.lean that lists a variable, with what it lists TIED to the program's text (the seventh form; the later family's looks); each row that meets fmt, with fmt's text TOLD by the authors' own Lean function (tested against real Go, not proved from fmt's source: count such statements apart). THE CARD IS WHAT COUNTS. Prove the row's statement (the work); the ties are given (YtdoaikanaodefaaGreatDoorTie.lean); close each card by the builder's one call (the guide's Derived/Test/ToyasCard.lean, 'card_holds'). Laid BY PROGRAM, IN A SANDBOX (cutbox-door.mjs). By AI agents, Wed Nov 11 2026. No macro, syntax, notation, axiom, sorry.
-/
import Derived.Test.YtdoaikanaodefaaGreatDoorRows
import GoSem.ClaimSeven
namespace Go.Proofs.YtdoaikanaodefaaGreatDoor
namespace Rows

/-- THE TIED CARD OF 'laws.FnExactPutBlock'. -/
def fnExactPutBlockCard : Claim7 := { stood := { row := fnExactPutBlockRow, standIns := [], harness := (true, "8dffc7bd1377cac6ae32e3f5ffbd775e52498acade14450a33507c1699744a1a"), looks := true }, kinds := [], alts := [], laidByText := true, laidKinds := [.wider, .data], laidTests := true, laidLooks := .later }
def FnExactPutBlockCardSaid : Prop := Claim7.holds Tryz.pinned (.plain (OpenSpec.ofChange fnExactPutBlockSpec)) fnExactPutBlockCard

/-- THE TIED CARD OF 'laws.FnExactGetBlock'. -/
def fnExactGetBlockCard : Claim7 := { stood := { row := fnExactGetBlockRow, standIns := [], harness := (true, "8dffc7bd1377cac6ae32e3f5ffbd775e52498acade14450a33507c1699744a1a"), looks := true }, kinds := [], alts := [], laidByText := true, laidKinds := [.wider, .data], laidTests := true, laidLooks := .later }
def FnExactGetBlockCardSaid : Prop := Claim7.holds Tryz.pinned (.plain (OpenSpec.ofChange fnExactGetBlockSpec)) fnExactGetBlockCard

/-- THE TIED CARD OF 'laws.FnExactBlockOf'. -/
def fnExactBlockOfCard : Claim7 := { stood := { row := fnExactBlockOfRow, standIns := [], harness := (true, "8dffc7bd1377cac6ae32e3f5ffbd775e52498acade14450a33507c1699744a1a"), looks := true }, kinds := [], alts := [], laidByText := true, laidKinds := [.wider, .data], laidTests := true, laidLooks := .later }
def FnExactBlockOfCardSaid : Prop := Claim7.holds Tryz.pinned (.plain (OpenSpec.ofChange fnExactBlockOfSpec)) fnExactBlockOfCard

/-- THE TIED CARD OF 'laws.FnExactBlockPath'. -/
def fnExactBlockPathCard : Claim7 := { stood := { row := fnExactBlockPathRow, standIns := [], harness := (true, "8dffc7bd1377cac6ae32e3f5ffbd775e52498acade14450a33507c1699744a1a"), looks := true }, kinds := [], alts := [], laidByText := true, laidKinds := [.wider, .data], laidTests := true, laidLooks := .later }
def FnExactBlockPathCardSaid : Prop := Claim7.holds Tryz.pinned (.plain (OpenSpec.ofChange fnExactBlockPathSpec)) fnExactBlockPathCard

/-- THE SECOND FORM's CARD OF 'laws.FnExactPutBlock'. -/
def fnExactPutBlockUptoCard : Claim7 := { stood := { row := fnExactPutBlockUptoRow, standIns := [], harness := (true, "8dffc7bd1377cac6ae32e3f5ffbd775e52498acade14450a33507c1699744a1a"), looks := true }, kinds := [], alts := [], laidByText := true, laidKinds := [.wider, .data], laidTests := true, laidLooks := .later }
def FnExactPutBlockUptoCardSaid : Prop := Claim7.holds Tryz.pinned (.plain (OpenSpec.upto fnExactPutBlockSpec)) fnExactPutBlockUptoCard

/-- THE SECOND FORM's CARD OF 'laws.FnExactGetBlock'. -/
def fnExactGetBlockUptoCard : Claim7 := { stood := { row := fnExactGetBlockUptoRow, standIns := [], harness := (true, "8dffc7bd1377cac6ae32e3f5ffbd775e52498acade14450a33507c1699744a1a"), looks := true }, kinds := [], alts := [], laidByText := true, laidKinds := [.wider, .data], laidTests := true, laidLooks := .later }
def FnExactGetBlockUptoCardSaid : Prop := Claim7.holds Tryz.pinned (.plain (OpenSpec.upto fnExactGetBlockSpec)) fnExactGetBlockUptoCard

/-- THE SECOND FORM's CARD OF 'laws.FnExactBlockOf'. -/
def fnExactBlockOfUptoCard : Claim7 := { stood := { row := fnExactBlockOfUptoRow, standIns := [], harness := (true, "8dffc7bd1377cac6ae32e3f5ffbd775e52498acade14450a33507c1699744a1a"), looks := true }, kinds := [], alts := [], laidByText := true, laidKinds := [.wider, .data], laidTests := true, laidLooks := .later }
def FnExactBlockOfUptoCardSaid : Prop := Claim7.holds Tryz.pinned (.plain (OpenSpec.upto fnExactBlockOfSpec)) fnExactBlockOfUptoCard

/-- THE SECOND FORM's CARD OF 'laws.FnExactBlockPath'. -/
def fnExactBlockPathUptoCard : Claim7 := { stood := { row := fnExactBlockPathUptoRow, standIns := [], harness := (true, "8dffc7bd1377cac6ae32e3f5ffbd775e52498acade14450a33507c1699744a1a"), looks := true }, kinds := [], alts := [], laidByText := true, laidKinds := [.wider, .data], laidTests := true, laidLooks := .later }
def FnExactBlockPathUptoCardSaid : Prop := Claim7.holds Tryz.pinned (.plain (OpenSpec.upto fnExactBlockPathSpec)) fnExactBlockPathUptoCard
end Rows
end Go.Proofs.YtdoaikanaodefaaGreatDoor
