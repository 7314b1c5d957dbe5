/-
  DERIVED. GIVEN WITH THE SEED: THE PROGRAM's TIES (one call each: nine closed facts by the kernel) AND EACH ROW's TIE, after the 31st guide's Derived/Test/Toyas{Tie, Card}.lean. No idea stands in it: it is a product of the set-up. Laid BY PROGRAM, IN A SANDBOX (cutbox-door.mjs). By AI agents, Wed Nov 11 2026. No macro, syntax, notation, axiom, sorry.
-/
import Derived.Test.YtceiipcdkonnlaaDoorRows
import Derived.LaidByTextLater
import Derived.SevenTiedAt
import Derived.LaidSub
import Derived.LaidOnce
namespace Go.Proofs.YtceiipcdkonnlaaDoor
open Go
set_option maxRecDepth 100000
theorem seatTie1 : Tryd.prog.laidByTextLater [("crier/head.may", Rows.laid_crier_head_may), ("errors.errorType", Rows.laid_errors_errorType), ("crier/framer.errWaits", Rows.laid_crier_framer_errWaits)] [.data, .handle, .sentinel] true :=
  Program.laidByTextLater_by_one 40 8 4 (by kernel_rfl) (by kernel_rfl) (by kernel_rfl) (by kernel_rfl) (by kernel_rfl) (by kernel_rfl) (fun _ _ => by kernel_rfl)
theorem noOwnUnsafe : Tryd.pinned.checked.prog.headLifts.contains "ownunsafe" = false := by kernel_rfl
theorem tie : Tryd.prog.laidByTextLater [("crier/head.may", Rows.laid_crier_head_may), ("errors.errorType", Rows.laid_errors_errorType), ("crier/framer.errWaits", Rows.laid_crier_framer_errWaits)] [.data, .handle, .sentinel] true :=
  Program.laidByTextLater.sub seatTie1 ["crier/head.may", "errors.errorType", "crier/framer.errWaits"] (by kernel_rfl) (by kernel_rfl)
theorem framerPlays_row_tie : Rows.framerPlaysRow.laidByTextAt .later Tryd.pinned [.data, .handle, .sentinel] true :=
  OpenClaim.laidByTextAt_later rfl rfl tie noOwnUnsafe
theorem framerChunks_row_tie : Rows.framerChunksRow.laidByTextAt .later Tryd.pinned [.data, .handle, .sentinel] true :=
  OpenClaim.laidByTextAt_later rfl rfl tie noOwnUnsafe
theorem framerBack_row_tie : Rows.framerBackRow.laidByTextAt .later Tryd.pinned [.data, .handle, .sentinel] true :=
  OpenClaim.laidByTextAt_later rfl rfl tie noOwnUnsafe
theorem framerDead_row_tie : Rows.framerDeadRow.laidByTextAt .later Tryd.pinned [.data, .handle, .sentinel] true :=
  OpenClaim.laidByTextAt_later rfl rfl tie noOwnUnsafe
theorem framerZero_row_tie : Rows.framerZeroRow.laidByTextAt .later Tryd.pinned [.data, .handle, .sentinel] true :=
  OpenClaim.laidByTextAt_later rfl rfl tie noOwnUnsafe
theorem framerPlaysUpto_row_tie : Rows.framerPlaysUptoRow.laidByTextAt .later Tryd.pinned [.data, .handle, .sentinel] true :=
  OpenClaim.laidByTextAt_later rfl rfl tie noOwnUnsafe
theorem framerChunksUpto_row_tie : Rows.framerChunksUptoRow.laidByTextAt .later Tryd.pinned [.data, .handle, .sentinel] true :=
  OpenClaim.laidByTextAt_later rfl rfl tie noOwnUnsafe
theorem framerBackUpto_row_tie : Rows.framerBackUptoRow.laidByTextAt .later Tryd.pinned [.data, .handle, .sentinel] true :=
  OpenClaim.laidByTextAt_later rfl rfl tie noOwnUnsafe
theorem framerDeadUpto_row_tie : Rows.framerDeadUptoRow.laidByTextAt .later Tryd.pinned [.data, .handle, .sentinel] true :=
  OpenClaim.laidByTextAt_later rfl rfl tie noOwnUnsafe
theorem framerZeroUpto_row_tie : Rows.framerZeroUptoRow.laidByTextAt .later Tryd.pinned [.data, .handle, .sentinel] true :=
  OpenClaim.laidByTextAt_later rfl rfl tie noOwnUnsafe
end Go.Proofs.YtceiipcdkonnlaaDoor
