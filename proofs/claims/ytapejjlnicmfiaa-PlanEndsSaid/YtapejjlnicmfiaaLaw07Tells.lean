/- PlanTells: what plan tells is what the document tells. -/
import Derived.Test.YtapejjlnicmfiaaLaw07TellsR
import Derived.Test.YtapejjlnicmfiaaLaw07TellsN
namespace Go.Proofs.Ytapejjlnicmfiaa
open Go.RowKit
/-- PlanTells, of any shape and any numbers. -/
theorem planTells_any (a b c i g ar k bl : Int) (b0 : -9223372036854775808 ≤ bl) (b1 : bl ≤ 9223372036854775807) (w : World) :
    Calls Try.prog 3 #[.agg #[.int .i64 a, .int .i64 b, .int .i64 c], .int .i64 i, .int .i64 g, .int .i64 ar, .int .i64 k, .int .i64 bl] w fun e w' => e = .returned (.bool true) ∧ Below w.heap.size w w' := by
  cases hr : rightB a b c with
  | true =>
    obtain ⟨S, R, P, rfl, rfl, rfl, h⟩ := right_shape hr
    exact tells_right h i g ar k bl b0 b1 w
  | false => exact tells_not hr i g ar k bl w
end Go.Proofs.Ytapejjlnicmfiaa
