/-
  DERIVED. GIVEN WITH THE SEED: THE CARDS: each row of YtmcpkkadlhnpdaaDoorRows.lean that lists a variable, with what it lists TIED to the program's text (the seventh form; the later family's looks); each row that meets fmt, with fmt's text TOLD by the authors' own Lean function (tested against real Go, not proved from fmt's source: count such statements apart). THE CARD IS WHAT COUNTS. Prove the row's statement (the work); the ties are given (YtmcpkkadlhnpdaaDoorTie.lean); close each card by the builder's one call (the guide's Derived/Test/ToyasCard.lean, 'card_holds'). Laid BY PROGRAM, IN A SANDBOX (cutbox-door.mjs). By AI agents, Wed Nov 11 2026. No macro, syntax, notation, axiom, sorry.
-/
import Derived.Test.YtmcpkkadlhnpdaaDoorRows
import GoSem.ClaimSeven
namespace Go.Proofs.YtmcpkkadlhnpdaaDoor
namespace Rows

/-- THE TIED CARD OF 'laws.FnExactShaInit'. -/
def fnExactShaInitCard : Claim7 := { stood := { row := fnExactShaInitRow, standIns := [], harness := (true, "76dbf187084ae2739ca226d54a532f29a4c53f666f7d20ca8a501ac7c3219d9a"), looks := false }, kinds := [], alts := [], laidByText := true, laidKinds := [.wider], laidTests := true, laidLooks := .later }
def FnExactShaInitCardSaid : Prop := Claim7.holds Tryd.pinned (.plain (OpenSpec.ofChange fnExactShaInitSpec)) fnExactShaInitCard

/-- THE TIED CARD OF 'laws.FnExactShaBlock'. -/
def fnExactShaBlockCard : Claim7 := { stood := { row := fnExactShaBlockRow, standIns := [], harness := (true, "76dbf187084ae2739ca226d54a532f29a4c53f666f7d20ca8a501ac7c3219d9a"), looks := false }, kinds := [], alts := [], laidByText := true, laidKinds := [.data], laidTests := true, laidLooks := .later }
def FnExactShaBlockCardSaid : Prop := Claim7.holds Tryd.pinned (.plain (OpenSpec.ofChange fnExactShaBlockSpec)) fnExactShaBlockCard

/-- THE TIED CARD OF 'laws.FnExactSha'. -/
def fnExactShaCard : Claim7 := { stood := { row := fnExactShaRow, standIns := [], harness := (true, "76dbf187084ae2739ca226d54a532f29a4c53f666f7d20ca8a501ac7c3219d9a"), looks := false }, kinds := [], alts := [], laidByText := true, laidKinds := [.wider, .data], laidTests := true, laidLooks := .later }
def FnExactShaCardSaid : Prop := Claim7.holds Tryd.pinned (.plain (OpenSpec.ofChange fnExactShaSpec)) fnExactShaCard

/-- THE SECOND FORM's CARD OF 'laws.FnExactShaInit'. -/
def fnExactShaInitUptoCard : Claim7 := { stood := { row := fnExactShaInitUptoRow, standIns := [], harness := (true, "76dbf187084ae2739ca226d54a532f29a4c53f666f7d20ca8a501ac7c3219d9a"), looks := false }, kinds := [], alts := [], laidByText := true, laidKinds := [.wider], laidTests := true, laidLooks := .later }
def FnExactShaInitUptoCardSaid : Prop := Claim7.holds Tryd.pinned (.plain (OpenSpec.upto fnExactShaInitSpec)) fnExactShaInitUptoCard

/-- THE SECOND FORM's CARD OF 'laws.FnExactShaBlock'. -/
def fnExactShaBlockUptoCard : Claim7 := { stood := { row := fnExactShaBlockUptoRow, standIns := [], harness := (true, "76dbf187084ae2739ca226d54a532f29a4c53f666f7d20ca8a501ac7c3219d9a"), looks := false }, kinds := [], alts := [], laidByText := true, laidKinds := [.data], laidTests := true, laidLooks := .later }
def FnExactShaBlockUptoCardSaid : Prop := Claim7.holds Tryd.pinned (.plain (OpenSpec.upto fnExactShaBlockSpec)) fnExactShaBlockUptoCard

/-- THE SECOND FORM's CARD OF 'laws.FnExactSha'. -/
def fnExactShaUptoCard : Claim7 := { stood := { row := fnExactShaUptoRow, standIns := [], harness := (true, "76dbf187084ae2739ca226d54a532f29a4c53f666f7d20ca8a501ac7c3219d9a"), looks := false }, kinds := [], alts := [], laidByText := true, laidKinds := [.wider, .data], laidTests := true, laidLooks := .later }
def FnExactShaUptoCardSaid : Prop := Claim7.holds Tryd.pinned (.plain (OpenSpec.upto fnExactShaSpec)) fnExactShaUptoCard
end Rows
end Go.Proofs.YtmcpkkadlhnpdaaDoor
