/- Loads of a shape that was handed in; two Booleans that are one. -/
import Derived.Test.YtapejjlnicmfiaaLaw07Awake
import Derived.Test.YtapejjlnicmfiaaKitSsa
namespace Go.Proofs.Ytapejjlnicmfiaa
open Go.RowKit
theorem box_load {w wx : World} {a b c : Int} (h : Boxed w wx a b c) : (Instr.loadAt 23 (.pointer (some ⟨w.heap.size, 0, none⟩))).run Try.prog wx = .ok (.agg #[.int .i64 a, .int .i64 b, .int .i64 c]) wx := by
  obtain ⟨d0, d1, d2⟩ := h.cells
  go_simp
theorem box_keep {f : FuncId} {args : Array Value} {v : Value} (H : ∀ w1, Calls Try.prog f args w1 fun e w' => e = .returned v ∧ Below w1.heap.size w1 w') {w : World} {a b c : Int} : ∀ w1, Boxed w w1 a b c → Calls Try.prog f args w1 fun e w' => e = .returned v ∧ Boxed w w' a b c :=
  fun w1 hS => (H w1).mono fun _ _ hh => ⟨hh.1, hS.below hh.2⟩
theorem eqb_run (b : Bool) (w : World) : (binOp .eql 4 (.bool b) (.bool b)).run Try.prog w = .ok (.bool true) w := by cases b <;> go_simp
end Go.Proofs.Ytapejjlnicmfiaa
