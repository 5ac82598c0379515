/- A start that meets the condition of law 02's rows. -/
import Derived.Test.YtifoiiaddcgngaaGreatDoorLaw02Facts
namespace Go.Proofs.YtifoiiaddcgngaaGreatDoor
open Go.ChangeShapes Go.WideShapes Go.RowKit Go.Deep
theorem doorA (os : Os) (args : Array Value) : laidMetH Tryz.prog laidA ((World.doorLaid Tryz.prog 400 os).forCall (fun _ _ => 0) ⟨#[], args, []⟩).memory :=
  laidMetH_of_parts3 (fuel := 8) (laidMet_of_run' 8 (by kernel_rfl) (by kernel_rfl)) (by kernel_rfl) (by kernel_rfl)
end Go.Proofs.YtifoiiaddcgngaaGreatDoor
