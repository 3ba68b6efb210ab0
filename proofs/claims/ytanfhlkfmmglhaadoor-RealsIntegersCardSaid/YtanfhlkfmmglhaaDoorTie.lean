/-
  DERIVED. GIVEN WITH THE SEED: THE PROGRAM's TIES (one call each: nine closed facts by the kernel) AND EACH ROW's TIE, after the 31st guide's Derived/Test/Toyas{Tie, Card}.lean. No idea stands in it: it is a product of the set-up. Laid BY PROGRAM, IN A SANDBOX (cutbox-door.mjs). By AI agents, Wed Nov 11 2026. No macro, syntax, notation, axiom, sorry.
-/
import Derived.Test.YtanfhlkfmmglhaaDoorRows
import Derived.LaidByTextLater
import Derived.SevenTiedAt
import Derived.LaidSub
import Derived.LaidOnce
namespace Go.Proofs.YtanfhlkfmmglhaaDoor
open Go
set_option maxRecDepth 100000
theorem seatTie1 : Tryd.prog.laidByTextLater [("environ/ints.sizes", Rows.laid_environ_ints_sizes), ("environ/reals.tens", Rows.laid_environ_reals_tens), ("environ/reals.precisions", Rows.laid_environ_reals_precisions)] [.data, .data, .data] true :=
  Program.laidByTextLater_by_one 27 8 21 (by kernel_rfl) (by kernel_rfl) (by kernel_rfl) (by kernel_rfl) (by kernel_rfl) (by kernel_rfl) (fun _ _ => by kernel_rfl)
theorem noOwnUnsafe : Tryd.pinned.checked.prog.headLifts.contains "ownunsafe" = false := by kernel_rfl
theorem tie : Tryd.prog.laidByTextLater [("environ/reals.tens", Rows.laid_environ_reals_tens), ("environ/reals.precisions", Rows.laid_environ_reals_precisions)] [.data, .data] true :=
  Program.laidByTextLater.sub seatTie1 ["environ/reals.tens", "environ/reals.precisions"] (by kernel_rfl) (by kernel_rfl)
theorem realsOps_row_tie : Rows.realsOpsRow.laidByTextAt .later Tryd.pinned [.data, .data] true :=
  OpenClaim.laidByTextAt_later rfl rfl tie noOwnUnsafe
theorem tie2 : Tryd.prog.laidByTextLater [("environ/ints.sizes", Rows.laid_environ_ints_sizes), ("environ/reals.tens", Rows.laid_environ_reals_tens), ("environ/reals.precisions", Rows.laid_environ_reals_precisions)] [.data, .data, .data] true :=
  Program.laidByTextLater.sub seatTie1 ["environ/ints.sizes", "environ/reals.tens", "environ/reals.precisions"] (by kernel_rfl) (by kernel_rfl)
theorem realsIntegers_row_tie : Rows.realsIntegersRow.laidByTextAt .later Tryd.pinned [.data, .data, .data] true :=
  OpenClaim.laidByTextAt_later rfl rfl tie2 noOwnUnsafe
theorem realsOpsUpto_row_tie : Rows.realsOpsUptoRow.laidByTextAt .later Tryd.pinned [.data, .data] true :=
  OpenClaim.laidByTextAt_later rfl rfl tie noOwnUnsafe
theorem realsIntegersUpto_row_tie : Rows.realsIntegersUptoRow.laidByTextAt .later Tryd.pinned [.data, .data, .data] true :=
  OpenClaim.laidByTextAt_later rfl rfl tie2 noOwnUnsafe
end Go.Proofs.YtanfhlkfmmglhaaDoor
