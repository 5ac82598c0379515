/- What a reader has left. -/
import Derived.Test.YtpaikolnampcfaaGreatDoorReadField
namespace Go.Proofs.YtpaikolnampcfaaGreatDoor
open Go.RowKit
theorem rleft_any (σ : Sen) (w : World) (g : Nat) (bs : List Int) (s : RSt) (h : RdAt σ w g bs s) :
    Calls Tryz.prog 124 #[.pointer (some ⟨g, 0, none⟩)] w fun e w' => e = .returned (.int .i64 (leftR bs s)) ∧ ∃ n, w' = w.drewN n := by
  cases s with
  | bad p l =>
    go_enter Tryz.func124, Tryz.ntmps124
    go_wp2_with fail
    refine (going_is σ w g bs _ h).mono ?_
    rintro e w' ⟨rfl, rfl⟩
    unfold isOk
    go_wp2_with fail
    go_ret
    exact ⟨rfl, 0, rfl⟩
  | ok j =>
    go_enter Tryz.func124, Tryz.ntmps124
    go_wp2_with fail
    refine (going_is σ w g bs _ h).mono ?_
    rintro e w' ⟨rfl, rfl⟩
    unfold isOk
    go_wp2_with fail
    refine (left_is σ w g bs j h).mono ?_
    rintro e w2 ⟨rfl, n, rfl⟩
    go_wp2_with fail
    go_ret
    exact ⟨rfl, n, rfl⟩
theorem rleft_nil (w : World) :
    Calls Tryz.prog 124 #[.pointer none] w fun e w' => e = .returned (.int .i64 0) ∧ w = w' := by
  go_enter Tryz.func124, Tryz.ntmps124
  go_wp2_with fail
  refine (going_nil w).mono ?_
  rintro e w' ⟨rfl, rfl⟩
  go_wp2_with fail
  go_ret
  exact ⟨rfl, rfl⟩
end Go.Proofs.YtpaikolnampcfaaGreatDoor
