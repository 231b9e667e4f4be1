/-
  DERIVED. GIVEN WITH THE SEED: THE PROGRAM's TIES (one call each: nine closed facts by the kernel) AND EACH ROW's TIE, after the 31st guide's Derived/Test/Toyas{Tie, Card}.lean. No idea stands in it: it is a product of the set-up. Laid BY PROGRAM, IN A SANDBOX (cutbox-door.mjs). By AI agents, Wed Nov 11 2026. No macro, syntax, notation, axiom, sorry.
-/
import Derived.Test.YtmcpkkadlhnpdaaDoorRows
import Derived.LaidByTextLater
import Derived.SevenTiedAt
import Derived.LaidSub
import Derived.LaidOnce
namespace Go.Proofs.YtmcpkkadlhnpdaaDoor
open Go
set_option maxRecDepth 100000
theorem seatTie1 : Tryd.prog.laidByTextLater [("loop.example/g00790/impl.shaInitial", Rows.laid_loop_example_g00790_impl_shaInitial), ("loop.example/g00790/impl.shaRounds", Rows.laid_loop_example_g00790_impl_shaRounds)] [.wider, .data] true :=
  Program.laidByTextLater_by_one 19 8 65 (by kernel_rfl) (by kernel_rfl) (by kernel_rfl) (by kernel_rfl) (by kernel_rfl) (by kernel_rfl) (fun _ _ => by kernel_rfl)
theorem noOwnUnsafe : Tryd.pinned.checked.prog.headLifts.contains "ownunsafe" = false := by kernel_rfl
theorem tie : Tryd.prog.laidByTextLater [("loop.example/g00790/impl.shaInitial", Rows.laid_loop_example_g00790_impl_shaInitial)] [.wider] true :=
  Program.laidByTextLater.sub seatTie1 ["loop.example/g00790/impl.shaInitial"] (by kernel_rfl) (by kernel_rfl)
theorem fnExactShaInit_row_tie : Rows.fnExactShaInitRow.laidByTextAt .later Tryd.pinned [.wider] true :=
  OpenClaim.laidByTextAt_later rfl rfl tie noOwnUnsafe
theorem tie2 : Tryd.prog.laidByTextLater [("loop.example/g00790/impl.shaRounds", Rows.laid_loop_example_g00790_impl_shaRounds)] [.data] true :=
  Program.laidByTextLater.sub seatTie1 ["loop.example/g00790/impl.shaRounds"] (by kernel_rfl) (by kernel_rfl)
theorem fnExactShaBlock_row_tie : Rows.fnExactShaBlockRow.laidByTextAt .later Tryd.pinned [.data] true :=
  OpenClaim.laidByTextAt_later rfl rfl tie2 noOwnUnsafe
theorem tie3 : Tryd.prog.laidByTextLater [("loop.example/g00790/impl.shaInitial", Rows.laid_loop_example_g00790_impl_shaInitial), ("loop.example/g00790/impl.shaRounds", Rows.laid_loop_example_g00790_impl_shaRounds)] [.wider, .data] true :=
  Program.laidByTextLater.sub seatTie1 ["loop.example/g00790/impl.shaInitial", "loop.example/g00790/impl.shaRounds"] (by kernel_rfl) (by kernel_rfl)
theorem fnExactSha_row_tie : Rows.fnExactShaRow.laidByTextAt .later Tryd.pinned [.wider, .data] true :=
  OpenClaim.laidByTextAt_later rfl rfl tie3 noOwnUnsafe
theorem fnExactShaInitUpto_row_tie : Rows.fnExactShaInitUptoRow.laidByTextAt .later Tryd.pinned [.wider] true :=
  OpenClaim.laidByTextAt_later rfl rfl tie noOwnUnsafe
theorem fnExactShaBlockUpto_row_tie : Rows.fnExactShaBlockUptoRow.laidByTextAt .later Tryd.pinned [.data] true :=
  OpenClaim.laidByTextAt_later rfl rfl tie2 noOwnUnsafe
theorem fnExactShaUpto_row_tie : Rows.fnExactShaUptoRow.laidByTextAt .later Tryd.pinned [.wider, .data] true :=
  OpenClaim.laidByTextAt_later rfl rfl tie3 noOwnUnsafe
end Go.Proofs.YtmcpkkadlhnpdaaDoor
