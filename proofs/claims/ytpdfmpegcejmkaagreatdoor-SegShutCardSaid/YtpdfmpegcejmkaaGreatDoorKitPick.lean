/- The statements' own helpers: a number brought into a range. -/
import Derived.Test.YtpdfmpegcejmkaaGreatDoorKitBlock
namespace Go.Proofs.YtpdfmpegcejmkaaGreatDoor
open Go.RowKit
set_option maxRecDepth 100000 in
theorem pick_any (x n : Int) (w : World) (hn : 1 ≤ n) (_hu : n ≤ 9223372036854775807) :
    Calls Tryz.prog 35 #[.int .i64 x, .int .i64 n] w fun e w' => e = .returned (.int .i64 (x % n)) ∧ w = w' := by
  have hb := tmod_bd x n (by omega)
  have h1 : ¬ n < 1 := by omega
  by_cases hneg : x.tmod n < 0
  · have He := Lib.hid (pick_neg x n (by omega) hneg)
    go_enter Tryz.func35, Tryz.ntmps35
    go_wp2
    go_ret
    exact ⟨ret_int He.out, rfl⟩
  · have He := Lib.hid (pick_pos x n (by omega) hneg)
    go_enter Tryz.func35, Tryz.ntmps35
    go_wp2
    go_ret
    exact ⟨ret_int He.out, rfl⟩
end Go.Proofs.YtpdfmpegcejmkaaGreatDoor
