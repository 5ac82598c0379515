/-
  DERIVED. GIVEN WITH THE SEED: THE PROGRAM's TIES (one call each: nine closed facts by the kernel) AND EACH ROW's TIE, after the 31st guide's Derived/Test/Toyas{Tie, Card}.lean. No idea stands in it: it is a product of the set-up. Laid BY PROGRAM, IN A SANDBOX (cutbox-door.mjs). By AI agents, Wed Nov 11 2026. No macro, syntax, notation, axiom, sorry.
-/
import Derived.Test.YtifoiiaddcgngaaGreatDoorRows
import Derived.LaidByTextLater
import Derived.SevenTiedAt
import Derived.LaidSub
import Derived.LaidOnce
namespace Go.Proofs.YtifoiiaddcgngaaGreatDoor
open Go
set_option maxRecDepth 100000
theorem seatTie1 : Tryz.prog.laidByTextLater [("errors.errorType", Rows.laid_errors_errorType), ("limpet/code.errWidth", Rows.laid_limpet_code_errWidth), ("limpet/code.errFew", Rows.laid_limpet_code_errFew), ("limpet/code.errGreat", Rows.laid_limpet_code_errGreat), ("limpet/code.errMuch", Rows.laid_limpet_code_errMuch), ("limpet/code.errEntry", Rows.laid_limpet_code_errEntry)] [.handle, .sentinel, .sentinel, .sentinel, .sentinel, .sentinel] true :=
  Program.laidByTextLater_by_one 111 8 2 (by kernel_rfl) (by kernel_rfl) (by kernel_rfl) (by kernel_rfl) (by kernel_rfl) (by kernel_rfl) (fun _ _ => by kernel_rfl)
theorem noOwnUnsafe : Tryz.pinned.checked.prog.headLifts.contains "ownunsafe" = false := by kernel_rfl
theorem tie : Tryz.prog.laidByTextLater [("errors.errorType", Rows.laid_errors_errorType), ("limpet/code.errWidth", Rows.laid_limpet_code_errWidth), ("limpet/code.errFew", Rows.laid_limpet_code_errFew), ("limpet/code.errGreat", Rows.laid_limpet_code_errGreat), ("limpet/code.errMuch", Rows.laid_limpet_code_errMuch), ("limpet/code.errEntry", Rows.laid_limpet_code_errEntry)] [.handle, .sentinel, .sentinel, .sentinel, .sentinel, .sentinel] true :=
  Program.laidByTextLater.sub seatTie1 ["errors.errorType", "limpet/code.errWidth", "limpet/code.errFew", "limpet/code.errGreat", "limpet/code.errMuch", "limpet/code.errEntry"] (by kernel_rfl) (by kernel_rfl)
theorem codeEnds_row_tie : Rows.codeEndsRow.laidByTextAt .later Tryz.pinned [.handle, .sentinel, .sentinel, .sentinel, .sentinel, .sentinel] true :=
  OpenClaim.laidByTextAt_later rfl rfl tie noOwnUnsafe
theorem codeEndsUpto_row_tie : Rows.codeEndsUptoRow.laidByTextAt .later Tryz.pinned [.handle, .sentinel, .sentinel, .sentinel, .sentinel, .sentinel] true :=
  OpenClaim.laidByTextAt_later rfl rfl tie noOwnUnsafe
end Go.Proofs.YtifoiiaddcgngaaGreatDoor
