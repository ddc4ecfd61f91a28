/-
  DERIVED. GIVEN WITH THE SEED: THE PROGRAM's TIES (one call each: nine closed facts by the kernel) AND EACH ROW's TIE, after the 31st guide's Derived/Test/Toyas{Tie, Card}.lean. No idea stands in it: it is a product of the set-up. Laid BY PROGRAM, IN A SANDBOX (cutbox-door.mjs). By AI agents, Wed Nov 11 2026. No macro, syntax, notation, axiom, sorry.
-/
import Derived.Test.YtlfpjfijlngpcaaDoorRows
import Derived.LaidByTextLater
import Derived.SevenTiedAt
import Derived.LaidSub
import Derived.LaidOnce
namespace Go.Proofs.YtlfpjfijlngpcaaDoor
open Go
set_option maxRecDepth 100000
theorem seatTie1 : Tryd.prog.laidByTextLater [("errors.errorType", Rows.laid_errors_errorType), ("parclose/sum.halved", Rows.laid_parclose_sum_halved), ("parclose/redo.errClear", Rows.laid_parclose_redo_errClear), ("parclose/redo.errLength", Rows.laid_parclose_redo_errLength), ("parclose/redo.errCommit", Rows.laid_parclose_redo_errCommit), ("parclose/redo.errAt", Rows.laid_parclose_redo_errAt)] [.handle, .data, .sentinel, .sentinel, .sentinel, .sentinel] true :=
  Program.laidByTextLater_by_one 97 8 17 (by kernel_rfl) (by kernel_rfl) (by kernel_rfl) (by kernel_rfl) (by kernel_rfl) (by kernel_rfl) (fun _ _ => by kernel_rfl)
theorem noOwnUnsafe : Tryd.pinned.checked.prog.headLifts.contains "ownunsafe" = false := by kernel_rfl
theorem tie : Tryd.prog.laidByTextLater [("errors.errorType", Rows.laid_errors_errorType), ("parclose/sum.halved", Rows.laid_parclose_sum_halved), ("parclose/redo.errClear", Rows.laid_parclose_redo_errClear), ("parclose/redo.errLength", Rows.laid_parclose_redo_errLength), ("parclose/redo.errCommit", Rows.laid_parclose_redo_errCommit), ("parclose/redo.errAt", Rows.laid_parclose_redo_errAt)] [.handle, .data, .sentinel, .sentinel, .sentinel, .sentinel] true :=
  Program.laidByTextLater.sub seatTie1 ["errors.errorType", "parclose/sum.halved", "parclose/redo.errClear", "parclose/redo.errLength", "parclose/redo.errCommit", "parclose/redo.errAt"] (by kernel_rfl) (by kernel_rfl)
theorem redoLays_row_tie : Rows.redoLaysRow.laidByTextAt .later Tryd.pinned [.handle, .data, .sentinel, .sentinel, .sentinel, .sentinel] true :=
  OpenClaim.laidByTextAt_later rfl rfl tie noOwnUnsafe
theorem redoReads_row_tie : Rows.redoReadsRow.laidByTextAt .later Tryd.pinned [.handle, .data, .sentinel, .sentinel, .sentinel, .sentinel] true :=
  OpenClaim.laidByTextAt_later rfl rfl tie noOwnUnsafe
theorem redoApplies_row_tie : Rows.redoAppliesRow.laidByTextAt .later Tryd.pinned [.handle, .data, .sentinel, .sentinel, .sentinel, .sentinel] true :=
  OpenClaim.laidByTextAt_later rfl rfl tie noOwnUnsafe
theorem redoBack_row_tie : Rows.redoBackRow.laidByTextAt .later Tryd.pinned [.handle, .data, .sentinel, .sentinel, .sentinel, .sentinel] true :=
  OpenClaim.laidByTextAt_later rfl rfl tie noOwnUnsafe
theorem redoTurned_row_tie : Rows.redoTurnedRow.laidByTextAt .later Tryd.pinned [.handle, .data, .sentinel, .sentinel, .sentinel, .sentinel] true :=
  OpenClaim.laidByTextAt_later rfl rfl tie noOwnUnsafe
theorem redoLaysUpto_row_tie : Rows.redoLaysUptoRow.laidByTextAt .later Tryd.pinned [.handle, .data, .sentinel, .sentinel, .sentinel, .sentinel] true :=
  OpenClaim.laidByTextAt_later rfl rfl tie noOwnUnsafe
theorem redoReadsUpto_row_tie : Rows.redoReadsUptoRow.laidByTextAt .later Tryd.pinned [.handle, .data, .sentinel, .sentinel, .sentinel, .sentinel] true :=
  OpenClaim.laidByTextAt_later rfl rfl tie noOwnUnsafe
theorem redoAppliesUpto_row_tie : Rows.redoAppliesUptoRow.laidByTextAt .later Tryd.pinned [.handle, .data, .sentinel, .sentinel, .sentinel, .sentinel] true :=
  OpenClaim.laidByTextAt_later rfl rfl tie noOwnUnsafe
theorem redoBackUpto_row_tie : Rows.redoBackUptoRow.laidByTextAt .later Tryd.pinned [.handle, .data, .sentinel, .sentinel, .sentinel, .sentinel] true :=
  OpenClaim.laidByTextAt_later rfl rfl tie noOwnUnsafe
theorem redoTurnedUpto_row_tie : Rows.redoTurnedUptoRow.laidByTextAt .later Tryd.pinned [.handle, .data, .sentinel, .sentinel, .sentinel, .sentinel] true :=
  OpenClaim.laidByTextAt_later rfl rfl tie noOwnUnsafe
end Go.Proofs.YtlfpjfijlngpcaaDoor
