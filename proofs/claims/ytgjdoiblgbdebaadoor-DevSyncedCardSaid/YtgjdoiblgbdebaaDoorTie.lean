/-
  DERIVED. GIVEN WITH THE SEED: THE PROGRAM's TIES (one call each: nine closed facts by the kernel) AND EACH ROW's TIE, after the 31st guide's Derived/Test/Toyas{Tie, Card}.lean. No idea stands in it: it is a product of the set-up. Laid BY PROGRAM, IN A SANDBOX (cutbox-door.mjs). By AI agents, Wed Nov 11 2026. No macro, syntax, notation, axiom, sorry.
-/
import Derived.Test.YtgjdoiblgbdebaaDoorRows
import Derived.LaidByTextLater
import Derived.SevenTiedAt
import Derived.LaidSub
import Derived.LaidOnce
namespace Go.Proofs.YtgjdoiblgbdebaaDoor
open Go
set_option maxRecDepth 100000
theorem seatTie1 : Tryd.prog.laidByTextLater [("limpet/dev.errNil", Rows.laid_limpet_dev_errNil), ("limpet/dev.errDown", Rows.laid_limpet_dev_errDown), ("limpet/dev.errBlock", Rows.laid_limpet_dev_errBlock), ("limpet/dev.errLong", Rows.laid_limpet_dev_errLong), ("limpet/dev.errSame", Rows.laid_limpet_dev_errSame), ("limpet/dev.errHurt", Rows.laid_limpet_dev_errHurt)] [.sentinel, .sentinel, .sentinel, .sentinel, .sentinel, .sentinel] true :=
  Program.laidByTextLater_by_one 123 8 2 (by kernel_rfl) (by kernel_rfl) (by kernel_rfl) (by kernel_rfl) (by kernel_rfl) (by kernel_rfl) (fun _ _ => by kernel_rfl)
theorem noOwnUnsafe : Tryd.pinned.checked.prog.headLifts.contains "ownunsafe" = false := by kernel_rfl
theorem tie : Tryd.prog.laidByTextLater [("limpet/dev.errNil", Rows.laid_limpet_dev_errNil), ("limpet/dev.errDown", Rows.laid_limpet_dev_errDown), ("limpet/dev.errBlock", Rows.laid_limpet_dev_errBlock), ("limpet/dev.errLong", Rows.laid_limpet_dev_errLong), ("limpet/dev.errSame", Rows.laid_limpet_dev_errSame), ("limpet/dev.errHurt", Rows.laid_limpet_dev_errHurt)] [.sentinel, .sentinel, .sentinel, .sentinel, .sentinel, .sentinel] true :=
  Program.laidByTextLater.sub seatTie1 ["limpet/dev.errNil", "limpet/dev.errDown", "limpet/dev.errBlock", "limpet/dev.errLong", "limpet/dev.errSame", "limpet/dev.errHurt"] (by kernel_rfl) (by kernel_rfl)
theorem devDoes_row_tie : Rows.devDoesRow.laidByTextAt .later Tryd.pinned [.sentinel, .sentinel, .sentinel, .sentinel, .sentinel, .sentinel] true :=
  OpenClaim.laidByTextAt_later rfl rfl tie noOwnUnsafe
theorem devWakes_row_tie : Rows.devWakesRow.laidByTextAt .later Tryd.pinned [.sentinel, .sentinel, .sentinel, .sentinel, .sentinel, .sentinel] true :=
  OpenClaim.laidByTextAt_later rfl rfl tie noOwnUnsafe
theorem devHurts_row_tie : Rows.devHurtsRow.laidByTextAt .later Tryd.pinned [.sentinel, .sentinel, .sentinel, .sentinel, .sentinel, .sentinel] true :=
  OpenClaim.laidByTextAt_later rfl rfl tie noOwnUnsafe
theorem tie2 : Tryd.prog.laidByTextLater [("limpet/dev.errNil", Rows.laid_limpet_dev_errNil), ("limpet/dev.errDown", Rows.laid_limpet_dev_errDown), ("limpet/dev.errBlock", Rows.laid_limpet_dev_errBlock), ("limpet/dev.errLong", Rows.laid_limpet_dev_errLong), ("limpet/dev.errHurt", Rows.laid_limpet_dev_errHurt)] [.sentinel, .sentinel, .sentinel, .sentinel, .sentinel] true :=
  Program.laidByTextLater.sub seatTie1 ["limpet/dev.errNil", "limpet/dev.errDown", "limpet/dev.errBlock", "limpet/dev.errLong", "limpet/dev.errHurt"] (by kernel_rfl) (by kernel_rfl)
theorem devSynced_row_tie : Rows.devSyncedRow.laidByTextAt .later Tryd.pinned [.sentinel, .sentinel, .sentinel, .sentinel, .sentinel] true :=
  OpenClaim.laidByTextAt_later rfl rfl tie2 noOwnUnsafe
theorem devDoesUpto_row_tie : Rows.devDoesUptoRow.laidByTextAt .later Tryd.pinned [.sentinel, .sentinel, .sentinel, .sentinel, .sentinel, .sentinel] true :=
  OpenClaim.laidByTextAt_later rfl rfl tie noOwnUnsafe
theorem devWakesUpto_row_tie : Rows.devWakesUptoRow.laidByTextAt .later Tryd.pinned [.sentinel, .sentinel, .sentinel, .sentinel, .sentinel, .sentinel] true :=
  OpenClaim.laidByTextAt_later rfl rfl tie noOwnUnsafe
theorem devSyncedUpto_row_tie : Rows.devSyncedUptoRow.laidByTextAt .later Tryd.pinned [.sentinel, .sentinel, .sentinel, .sentinel, .sentinel] true :=
  OpenClaim.laidByTextAt_later rfl rfl tie2 noOwnUnsafe
theorem devHurtsUpto_row_tie : Rows.devHurtsUptoRow.laidByTextAt .later Tryd.pinned [.sentinel, .sentinel, .sentinel, .sentinel, .sentinel, .sentinel] true :=
  OpenClaim.laidByTextAt_later rfl rfl tie noOwnUnsafe
end Go.Proofs.YtgjdoiblgbdebaaDoor
