/- Is a unit small. -/
import Derived.Test.YtpdfmpegcejmkaaGreatDoorMixRshift
namespace Go.Proofs.YtpdfmpegcejmkaaGreatDoor
open Go.RowKit
set_option maxRecDepth 100000 in
set_option maxHeartbeats 1000000 in
theorem usmall_any (w : World) (u : UnitV) (A : Option Addr) (c : Nat) :
    Calls Tryz.prog 33 #[u.val A c] w fun r w' => r = .returned (.bool (decide u.small)) ∧ Below w.heap.size w w' := by
  have HR := Lib.hid (fun w' => uright_any w' u A c)
  have Hd : Hid (decide u.small = (decide u.right && decide (u.body.length ≤ 20))) := Lib.hid (by by_cases h1 : u.right <;> by_cases h2 : u.body.length ≤ 20 <;> simp [UnitV.small, h1, h2])
  obtain ⟨r, hr⟩ : ∃ r, decide u.right = r := ⟨_, rfl⟩
  rw [hr] at HR Hd
  rw [Hd.out]
  clear hr Hd
  obtain ⟨k, n, body⟩ := u
  have hn := below_new w (.cells #[.int .i64 k, .int .i64 n, .slice A body.length c] 34)
  unfold UnitV.val at *
  simp only at HR ⊢
  cases r with
  | true =>
    go_enter Tryz.func33, Tryz.ntmps33
    go_wp2_with fail
    refine (HR.out _).mono ?_
    rintro e w' ⟨rfl, hb⟩
    have c2 : w'.cell? ⟨w.heap.size, 2, none⟩ = some (.slice A body.length c) := cell_below (row3_cells w _ _ _ _).2.2 hb
    go_wp2_with fail
    go_ret
    refine ⟨ret_bool ?_, hn.trans (hb.mono hn.size)⟩
    rw [Bool.true_and, decide_eq_decide]; omega
  | false =>
    go_enter Tryz.func33, Tryz.ntmps33
    go_wp2_with fail
    refine (HR.out _).mono ?_
    rintro e w' ⟨rfl, hb⟩
    go_wp2_with fail
    go_ret
    exact ⟨rfl, hn.trans (hb.mono hn.size)⟩
end Go.Proofs.YtpdfmpegcejmkaaGreatDoor
