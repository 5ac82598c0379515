/- Is an entry right? -/
import Derived.Test.YtoddcjpfldpnfaaDoorCodeText
namespace Go.Proofs.YtoddcjpfldpnfaaDoor
open Go.RowKit
set_option maxRecDepth 100000 in
set_option maxHeartbeats 1000000 in
theorem right_any (w : World) (e : Ent) (A : Option Addr) (c : Nat) (hl : e.body.length ≤ 9223372036854775807) :
    Calls Tryd.prog 35 #[.agg #[.int .i64 e.index, .int .i64 e.term, .int .i64 e.kind, .slice A e.body.length c]] w fun r w' => r = .returned (.bool (rightB e)) ∧ Below w.heap.size w w' := by
  obtain ⟨x, t, k, body⟩ := e
  simp only at hl ⊢
  have hn := below_new w (.cells #[.int .i64 x, .int .i64 t, .int .i64 k, .slice A body.length c] 37)
  by_cases hk : 1 ≤ k ∧ k ≤ 3
  · go_enter Tryd.func35, Tryd.ntmps35
    go_wp2
    all_goals
      go_ret
      refine ⟨ret_bool ?_, hn⟩
      simp only [beq_iff_eq] at *
      unfold rightB
      first | exact (decide_eq_false (by simp only; omega)).symm | (rw [decide_eq_decide]; simp only; omega)
  · go_enter Tryd.func35, Tryd.ntmps35
    go_wp2
    all_goals
      go_ret
      refine ⟨ret_bool ?_, hn⟩
      unfold rightB
      first | exact (decide_eq_false (by simp only; omega)).symm | (rw [decide_eq_decide]; simp only; omega)
end Go.Proofs.YtoddcjpfldpnfaaDoor
