/- Is a unit small; is it right, by the page. -/
import Derived.Test.YtmmebaphhgggfaaGreatDoorUnitRight
namespace Go.Proofs.YtmmebaphhgggfaaGreatDoor
open Go.RowKit
set_option maxRecDepth 100000 in
set_option maxHeartbeats 1000000 in
theorem usmall_any (w : World) (u : UnitV) (A : Option Addr) (c : Nat) :
    Calls Tryz.prog 15 #[u.val A c] w fun r w' => r = .returned (.bool (decide u.small)) ∧ Below w.heap.size w w' := by
  have HR := Lib.hid (fun w' => uright_any w' u A c)
  have Hd : Hid (decide u.small = (decide u.right && decide (u.body.length ≤ 20))) := Lib.hid (by by_cases h1 : u.right <;> by_cases h2 : u.body.length ≤ 20 <;> simp [UnitV.small, h1, h2])
  obtain ⟨r, hr⟩ : ∃ r, decide u.right = r := ⟨_, rfl⟩
  rw [hr] at HR Hd
  rw [Hd.out]
  clear hr Hd
  obtain ⟨k, n, body⟩ := u
  have hn := below_new w (.cells #[.int .i64 k, .int .i64 n, .slice A body.length c] 25)
  unfold UnitV.val at *
  simp only at HR ⊢
  cases r with
  | true =>
    go_enter Tryz.func15, Tryz.ntmps15
    go_wp2_with fail
    refine (HR.out _).mono ?_
    rintro e w' ⟨rfl, hb⟩
    have c2 : w'.cell? ⟨w.heap.size, 2, none⟩ = some (.slice A body.length c) := cell_below (row3_cells w _ _ _ _).2.2 hb
    go_wp2_with fail
    go_ret
    refine ⟨ret_bool ?_, hn.trans (hb.mono hn.size)⟩
    rw [Bool.true_and, decide_eq_decide]; omega
  | false =>
    go_enter Tryz.func15, Tryz.ntmps15
    go_wp2_with fail
    refine (HR.out _).mono ?_
    rintro e w' ⟨rfl, hb⟩
    go_wp2_with fail
    go_ret
    exact ⟨rfl, hn.trans (hb.mono hn.size)⟩
set_option maxRecDepth 100000 in
set_option maxHeartbeats 1000000 in
theorem rright_any (w : World) (u : UnitV) (A : Option Addr) (c : Nat) :
    Calls Tryz.prog 14 #[u.val A c] w fun r w' => r = .returned (.bool (decide u.right)) ∧ Below w.heap.size w w' := by
  obtain ⟨k, n, body⟩ := u
  have hn := below_new w (.cells #[.int .i64 k, .int .i64 n, .slice A body.length c] 25)
  unfold UnitV.val
  simp only
  go_enter Tryz.func14, Tryz.ntmps14
  go_wp2
  all_goals
    go_ret
    refine ⟨ret_bool ?_, hn⟩
    first | exact (decide_eq_false (by unfold UnitV.right; simp only; omega)).symm | (refine decide_eq_decide.2 ?_; unfold UnitV.right; simp only; omega)
set_option maxRecDepth 100000 in
set_option maxHeartbeats 1000000 in
theorem rsmall_any (w : World) (u : UnitV) (A : Option Addr) (c : Nat) :
    Calls Tryz.prog 16 #[u.val A c] w fun r w' => r = .returned (.bool (decide u.small)) ∧ Below w.heap.size w w' := by
  have HR := Lib.hid (fun w' => rright_any w' u A c)
  have Hd : Hid (decide u.small = (decide u.right && decide (u.body.length ≤ 20))) := Lib.hid (by by_cases h1 : u.right <;> by_cases h2 : u.body.length ≤ 20 <;> simp [UnitV.small, h1, h2])
  obtain ⟨r, hr⟩ : ∃ r, decide u.right = r := ⟨_, rfl⟩
  rw [hr] at HR Hd
  rw [Hd.out]
  clear hr Hd
  obtain ⟨k, n, body⟩ := u
  have hn := below_new w (.cells #[.int .i64 k, .int .i64 n, .slice A body.length c] 25)
  unfold UnitV.val at *
  simp only at HR ⊢
  cases r with
  | true =>
    go_enter Tryz.func16, Tryz.ntmps16
    go_wp2_with fail
    refine (HR.out _).mono ?_
    rintro e w' ⟨rfl, hb⟩
    have c2 : w'.cell? ⟨w.heap.size, 2, none⟩ = some (.slice A body.length c) := cell_below (row3_cells w _ _ _ _).2.2 hb
    go_wp2_with fail
    go_ret
    refine ⟨ret_bool ?_, hn.trans (hb.mono hn.size)⟩
    rw [Bool.true_and, decide_eq_decide]; omega
  | false =>
    go_enter Tryz.func16, Tryz.ntmps16
    go_wp2_with fail
    refine (HR.out _).mono ?_
    rintro e w' ⟨rfl, hb⟩
    go_wp2_with fail
    go_ret
    exact ⟨rfl, hn.trans (hb.mono hn.size)⟩
end Go.Proofs.YtmmebaphhgggfaaGreatDoor
