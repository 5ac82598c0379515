/- PlanApart by a shape that is not right; the row of blocks as it is made. -/
import Derived.Test.YtapejjlnicmfiaaLaw07Seen
import Derived.Deep.OwnRows
namespace Go.Proofs.Ytapejjlnicmfiaa
open Go.RowKit
set_option maxRecDepth 100000 in
set_option maxHeartbeats 4000000 in
theorem apart_not {a b c : Int} (h : rightB a b c = false) (w : World) :
    Calls Try.prog 5 #[.agg #[.int .i64 a, .int .i64 b, .int .i64 c]] w fun e w' => e = .returned (.bool true) ∧ Below w.heap.size w w' := by
  have HX := Lib.hid (Boxed.start w a b c)
  obtain ⟨d0, d1, d2⟩ := HX.out.cells
  have HA := Lib.hid awake_any
  have HB := Lib.hid (blocks_not h)
  have HR : Hid (∀ w, Calls Try.prog 9 #[.agg #[.int .i64 a, .int .i64 b, .int .i64 c]] w fun e w' => e = .returned (.bool false) ∧ Below w.heap.size w w') := Lib.hid (fun w => by have := right_any a b c w; rw [h] at this; exact this)
  go_enter Try.func5, Try.ntmps5
  go_wp2_with (first | (go_at_call 27; (with_reducible refine (HA.out _).mono ?_); rintro e w1 ⟨rfl, hb⟩; replace HX := Lib.hid (HX.out.below hb); clear hb d0 d1 d2; obtain ⟨d0, d1, d2⟩ := HX.out.cells) | (go_at_call 9; (with_reducible refine (HR.out _).mono ?_); rintro e w1 ⟨rfl, hb⟩; replace HX := Lib.hid (HX.out.below hb); clear hb d0 d1 d2; obtain ⟨d0, d1, d2⟩ := HX.out.cells) | (go_at_call 11; (with_reducible refine (HB.out _).mono ?_); rintro e w1 ⟨rfl, hb⟩; replace HX := Lib.hid (HX.out.below hb); clear hb d0 d1 d2; obtain ⟨d0, d1, d2⟩ := HX.out.cells))
  go_ret
  exact ⟨rfl, HX.out.bl⟩
theorem infoBool : (Try.prog.info? 4).map (fun i => (i.zero, i.size, i.bytes)) = some (some (.bool false), 1, 1) := by kernel_rfl
theorem made_seen (n : Nat) : madeCells #[.bool false] n = seenA n 0 := by
  refine Array.ext_getElem? fun j => ?_
  by_cases hj : j < n
  · rw [seenA_get hj, decide_eq_false (Nat.not_lt_zero j)]
    unfold madeCells
    rw [Array.getElem?_map, Array.getElem?_range, if_pos hj]
    simp [Nat.mod_one]
  · rw [Array.getElem?_eq_none (by rw [size_madeCells]; omega), Array.getElem?_eq_none (by rw [seenA_size]; omega)]
end Go.Proofs.Ytapejjlnicmfiaa
