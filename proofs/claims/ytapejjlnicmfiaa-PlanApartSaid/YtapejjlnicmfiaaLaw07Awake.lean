/- The chapter's example. -/
import Derived.Test.YtapejjlnicmfiaaRef7What
namespace Go.Proofs.Ytapejjlnicmfiaa
open Go.RowKit
theorem ex_right : Pl.Right 2 3 2 := ⟨by decide, by decide, by decide, by decide, by decide, by decide⟩
set_option maxRecDepth 100000 in
set_option maxHeartbeats 4000000 in
theorem awake_any (w : World) :
    Calls Try.prog 27 #[] w fun e w' => e = .returned (.bool true) ∧ Below w.heap.size w w' := by
  have HX := Lib.hid (Boxed.start w 2 3 2)
  obtain ⟨d0, d1, d2⟩ := HX.out.cells
  have H0 : Hid (∀ w, Calls Try.prog 11 #[.agg #[.int .i64 2, .int .i64 3, .int .i64 2]] w fun e w' => e = .returned (.int .i64 22) ∧ Below w.heap.size w w') := Lib.hid (blocks_any ex_right)
  have H1 : Hid (∀ w, Calls Try.prog 17 #[.agg #[.int .i64 2, .int .i64 3, .int .i64 2], .int .i64 1] w fun e w' => e = .returned (.int .i64 7) ∧ Below w.heap.size w w') := Lib.hid (record_any ex_right 1)
  have H2 : Hid (∀ w, Calls Try.prog 19 #[.agg #[.int .i64 2, .int .i64 3, .int .i64 2], .int .i64 0] w fun e w' => e = .returned (.int .i64 6) ∧ Below w.heap.size w w') := Lib.hid (head_any ex_right 0)
  have H3 : Hid (∀ w, Calls Try.prog 21 #[.agg #[.int .i64 2, .int .i64 3, .int .i64 2], .int .i64 0] w fun e w' => e = .returned (.int .i64 10) ∧ Below w.heap.size w w') := Lib.hid (foot_any ex_right 0)
  have H4 : Hid (∀ w, Calls Try.prog 17 #[.agg #[.int .i64 2, .int .i64 3, .int .i64 2], .int .i64 4] w fun e w' => e = .returned (.int .i64 12) ∧ Below w.heap.size w w') := Lib.hid (record_any ex_right 4)
  have H5 : Hid (∀ w, Calls Try.prog 17 #[.agg #[.int .i64 2, .int .i64 3, .int .i64 2], .int .i64 7] w fun e w' => e = .returned (.int .i64 7) ∧ Below w.heap.size w w') := Lib.hid (record_any ex_right 7)
  have H6 : Hid (∀ w, Calls Try.prog 23 #[.agg #[.int .i64 2, .int .i64 3, .int .i64 2], .int .i64 1] w fun e w' => e = .returned (.int .i64 19) ∧ Below w.heap.size w w') := Lib.hid (snap_any ex_right 1)
  go_enter Try.func27, Try.ntmps27
  go_wp2_with (first | (go_at_call 11; (with_reducible refine (H0.out _).mono ?_); rintro e w1 ⟨rfl, hb⟩; replace HX := Lib.hid (HX.out.below hb); clear hb d0 d1 d2; obtain ⟨d0, d1, d2⟩ := HX.out.cells) | (go_at_call 17; (with_reducible refine (H1.out _).mono ?_); rintro e w1 ⟨rfl, hb⟩; replace HX := Lib.hid (HX.out.below hb); clear hb d0 d1 d2; obtain ⟨d0, d1, d2⟩ := HX.out.cells) | (go_at_call 19; (with_reducible refine (H2.out _).mono ?_); rintro e w1 ⟨rfl, hb⟩; replace HX := Lib.hid (HX.out.below hb); clear hb d0 d1 d2; obtain ⟨d0, d1, d2⟩ := HX.out.cells) | (go_at_call 21; (with_reducible refine (H3.out _).mono ?_); rintro e w1 ⟨rfl, hb⟩; replace HX := Lib.hid (HX.out.below hb); clear hb d0 d1 d2; obtain ⟨d0, d1, d2⟩ := HX.out.cells) | (go_at_call 17; (with_reducible refine (H4.out _).mono ?_); rintro e w1 ⟨rfl, hb⟩; replace HX := Lib.hid (HX.out.below hb); clear hb d0 d1 d2; obtain ⟨d0, d1, d2⟩ := HX.out.cells) | (go_at_call 17; (with_reducible refine (H5.out _).mono ?_); rintro e w1 ⟨rfl, hb⟩; replace HX := Lib.hid (HX.out.below hb); clear hb d0 d1 d2; obtain ⟨d0, d1, d2⟩ := HX.out.cells) | (go_at_call 23; (with_reducible refine (H6.out _).mono ?_); rintro e w1 ⟨rfl, hb⟩; replace HX := Lib.hid (HX.out.below hb); clear hb d0 d1 d2; obtain ⟨d0, d1, d2⟩ := HX.out.cells))
  go_ret
  exact ⟨rfl, HX.out.bl⟩
end Go.Proofs.Ytapejjlnicmfiaa
