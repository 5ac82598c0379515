/- Is a unit right, is it small; the parts of its body: the package's, and the page's own. -/
import Derived.Test.YtbkecaenjjlmoaaGreatDoorKitChg
import Derived.Test.YtbkecaenjjlmoaaGreatDoorUnitLay
namespace Go.Proofs.YtbkecaenjjlmoaaGreatDoor
open Go.RowKit
/-- A unit as a value; its body lies at A. -/
abbrev UnitV.val (u : UnitV) (A : Option Addr) (c : Nat) : Value := .agg #[.int .i64 u.kind, .int .i64 u.num, .slice A u.body.length c]
set_option maxRecDepth 100000 in
set_option maxHeartbeats 1000000 in
theorem uright_any (w : World) (u : UnitV) (A : Option Addr) (c : Nat) :
    Calls Tryz.prog 27 #[u.val A c] w fun r w' => r = .returned (.bool (decide u.right)) ∧ Below w.heap.size w w' := by
  obtain ⟨k, n, body⟩ := u
  have hn := below_new w (.cells #[.int .i64 k, .int .i64 n, .slice A body.length c] 27)
  unfold UnitV.val
  simp only
  go_enter Tryz.func27, Tryz.ntmps27
  go_wp2
  all_goals
    go_ret
    refine ⟨ret_bool ?_, hn⟩
    first | exact (decide_eq_false (by unfold UnitV.right; simp only; omega)).symm | (refine decide_eq_decide.2 ?_; unfold UnitV.right; simp only; omega)
theorem parted_any (w : World) (n : Nat) (hn : n ≤ 140737488351232) :
    Calls Tryz.prog 59 #[.int .i64 (n : Int)] w fun e w' => e = .returned (.tuple #[.int .i64 ((min n 20 : Nat) : Int), .int .i64 ((n - 20 : Nat) : Int)]) ∧ w = w' := by
  by_cases h : n ≤ 20
  · have h1 : min n 20 = n := by omega
    have h2 : n - 20 = 0 := by omega
    rw [h1, h2]
    go_enter Tryz.func59, Tryz.ntmps59
    go_wp2_with fail
    all_goals
      go_ret2
      refine ⟨?_, rfl⟩
      congr 3 <;> first | omega | rfl
  · have h1 : min n 20 = 20 := by omega
    have h2 : ((n - 20 : Nat) : Int) = (n : Int) - 20 := by omega
    rw [h1, h2]
    go_enter Tryz.func59, Tryz.ntmps59
    go_wp2_with fail
    all_goals
      go_ret2
      refine ⟨?_, rfl⟩
      congr 3 <;> first | omega | rfl
end Go.Proofs.YtbkecaenjjlmoaaGreatDoor
