/- plan's calls by a right shape: how many blocks, the segment number, the first index; the blocks of units. -/
import Derived.Test.YtapejjlnicmfiaaPlanBlock
import Derived.Test.YtapejjlnicmfiaaPlanRowsA
import Derived.Test.YtapejjlnicmfiaaPlanRowsB
namespace Go.Proofs.Ytapejjlnicmfiaa
open Go.RowKit
theorem rowsOf_any {S R P : Nat} (h : Pl.Right S R P) (k : Nat) (k0 : 1 ≤ k) (k1 : k ≤ 8) (w : World) :
    Calls Try.prog 30 #[shapeV S R P, .int .i64 (k : Int)] w fun e w' => e = .returned (rowsV S R P k) ∧ Below w.heap.size w w' := by
  rcases (show (k = 1 ∨ k = 2 ∨ k = 3) ∨ (k = 4 ∨ k = 5 ∨ k = 6) ∨ (k = 7 ∨ k = 8) by omega) with hk | hk | hk
  · exact rowsOf_small h k hk w
  · exact rowsOf_seg h k hk w
  · exact rowsOf_area h k hk w
/-- What a call keeps of a shape that it was handed: its own copy. -/
structure Boxed (w w1 : World) (a b c : Int) : Prop where
  bl : Below w.heap.size w w1
  box : BlockIs w1 w.heap.size 23 #[.int .i64 a, .int .i64 b, .int .i64 c]
section
variable {w w1 w2 : World} {a b c : Int}
theorem Boxed.start (w : World) (a b c : Int) : Boxed w (w.alloc (.cells #[.int .i64 a, .int .i64 b, .int .i64 c] 23)) a b c := ⟨below_new w _, BlockIs.made w _ _⟩
theorem Boxed.below (h : Boxed w w1 a b c) (hb : Below w1.heap.size w1 w2) : Boxed w w2 a b c := ⟨h.bl.trans (hb.mono h.bl.size), h.box.below hb h.box.lt⟩
theorem Boxed.alloc (h : Boxed w w1 a b c) (o : Obj) : Boxed w (w1.alloc o) a b c := h.below (below_new _ _)
theorem Boxed.drew (h : Boxed w w1 a b c) : Boxed w w1.drew a b c := ⟨h.bl.drew, h.box⟩
theorem Boxed.cells (h : Boxed w w1 a b c) : w1.cell? ⟨w.heap.size, 0, none⟩ = some (.int .i64 a) ∧ w1.cell? ⟨w.heap.size, 1, none⟩ = some (.int .i64 b) ∧ w1.cell? ⟨w.heap.size, 2, none⟩ = some (.int .i64 c) :=
  ⟨h.box.cell 0, h.box.cell 1, h.box.cell 2⟩
end
/-! ### By a shape that is not right -/
section
variable {a b c : Int}
set_option maxRecDepth 100000 in
set_option maxHeartbeats 800000 in
theorem blocks_not (h : rightB a b c = false) (w : World) :
    Calls Try.prog 11 #[.agg #[.int .i64 a, .int .i64 b, .int .i64 c]] w fun e w' => e = .returned (.int .i64 0) ∧ Below w.heap.size w w' := by
  have HX := Lib.hid (Boxed.start w a b c)
  go_enter Try.func11, Try.ntmps11
  go_wp2_with (go_at_call 9; refine (right_any a b c _).mono ?_; rw [h]; rintro e w1 ⟨rfl, hb⟩)
  go_ret
  exact ⟨rfl, (HX.out.below hb).bl⟩
set_option maxRecDepth 100000 in
set_option maxHeartbeats 800000 in
theorem segment_not (h : rightB a b c = false) (i : Int) (w : World) :
    Calls Try.prog 13 #[.agg #[.int .i64 a, .int .i64 b, .int .i64 c], .int .i64 i] w fun e w' => e = .returned (.int .i64 (-1)) ∧ Below w.heap.size w w' := by
  have HX := Lib.hid (Boxed.start w a b c)
  go_enter Try.func13, Try.ntmps13
  go_wp2_with (go_at_call 9; refine (right_any a b c _).mono ?_; rw [h]; rintro e w1 ⟨rfl, hb⟩)
  go_ret
  exact ⟨rfl, (HX.out.below hb).bl⟩
set_option maxRecDepth 100000 in
set_option maxHeartbeats 800000 in
theorem first_not (h : rightB a b c = false) (g : Int) (w : World) :
    Calls Try.prog 15 #[.agg #[.int .i64 a, .int .i64 b, .int .i64 c], .int .i64 g] w fun e w' => e = .returned (.int .i64 (-1)) ∧ Below w.heap.size w w' := by
  have HX := Lib.hid (Boxed.start w a b c)
  go_enter Try.func15, Try.ntmps15
  go_wp2_with (go_at_call 9; refine (right_any a b c _).mono ?_; rw [h]; rintro e w1 ⟨rfl, hb⟩)
  go_ret
  exact ⟨rfl, (HX.out.below hb).bl⟩
set_option maxRecDepth 100000 in
set_option maxHeartbeats 800000 in
theorem inSegment_not (h : rightB a b c = false) (k g at' : Int) (w : World) :
    Calls Try.prog 37 #[.agg #[.int .i64 a, .int .i64 b, .int .i64 c], .int .i64 k, .int .i64 g, .int .i64 at'] w fun e w' => e = .returned (.int .i64 (-1)) ∧ Below w.heap.size w w' := by
  have HX := Lib.hid (Boxed.start w a b c)
  go_enter Try.func37, Try.ntmps37
  go_wp2_with (go_at_call 15; refine (first_not h g _).mono ?_; rintro e w1 ⟨rfl, hb⟩)
  go_ret
  exact ⟨rfl, (HX.out.below hb).bl⟩
set_option maxRecDepth 100000 in
set_option maxHeartbeats 800000 in
theorem inArea_not (h : rightB a b c = false) (k g at' : Int) (w : World) :
    Calls Try.prog 40 #[.agg #[.int .i64 a, .int .i64 b, .int .i64 c], .int .i64 k, .int .i64 g, .int .i64 at'] w fun e w' => e = .returned (.int .i64 (-1)) ∧ Below w.heap.size w w' := by
  have HX := Lib.hid (Boxed.start w a b c)
  go_enter Try.func40, Try.ntmps40
  go_wp2_with (go_at_call 9; refine (right_any a b c _).mono ?_; rw [h]; rintro e w1 ⟨rfl, hb⟩)
  go_ret
  exact ⟨rfl, (HX.out.below hb).bl⟩
set_option maxRecDepth 100000 in
set_option maxHeartbeats 800000 in
theorem head_not (h : rightB a b c = false) (g : Int) (w : World) :
    Calls Try.prog 19 #[.agg #[.int .i64 a, .int .i64 b, .int .i64 c], .int .i64 g] w fun e w' => e = .returned (.int .i64 (-1)) ∧ Below w.heap.size w w' := by
  have HX := Lib.hid (Boxed.start w a b c)
  go_enter Try.func19, Try.ntmps19
  go_wp2_with (go_at_call 37; refine (inSegment_not h _ g _ _).mono ?_; rintro e w1 ⟨rfl, hb⟩)
  go_ret
  exact ⟨rfl, (HX.out.below hb).bl⟩
set_option maxRecDepth 100000 in
set_option maxHeartbeats 800000 in
theorem foot_not (h : rightB a b c = false) (g : Int) (w : World) :
    Calls Try.prog 21 #[.agg #[.int .i64 a, .int .i64 b, .int .i64 c], .int .i64 g] w fun e w' => e = .returned (.int .i64 (-1)) ∧ Below w.heap.size w w' := by
  have HX := Lib.hid (Boxed.start w a b c)
  go_enter Try.func21, Try.ntmps21
  go_wp2_with (go_at_call 37; refine (inSegment_not h _ g _ _).mono ?_; rintro e w1 ⟨rfl, hb⟩)
  go_ret
  exact ⟨rfl, (HX.out.below hb).bl⟩
set_option maxRecDepth 100000 in
set_option maxHeartbeats 800000 in
theorem snap_not (h : rightB a b c = false) (g : Int) (w : World) :
    Calls Try.prog 23 #[.agg #[.int .i64 a, .int .i64 b, .int .i64 c], .int .i64 g] w fun e w' => e = .returned (.int .i64 (-1)) ∧ Below w.heap.size w w' := by
  have HX := Lib.hid (Boxed.start w a b c)
  go_enter Try.func23, Try.ntmps23
  go_wp2_with (go_at_call 40; refine (inArea_not h _ g _ _).mono ?_; rintro e w1 ⟨rfl, hb⟩)
  go_ret
  exact ⟨rfl, (HX.out.below hb).bl⟩
set_option maxRecDepth 100000 in
set_option maxHeartbeats 800000 in
theorem piece_not (h : rightB a b c = false) (g k : Int) (w : World) :
    Calls Try.prog 25 #[.agg #[.int .i64 a, .int .i64 b, .int .i64 c], .int .i64 g, .int .i64 k] w fun e w' => e = .returned (.int .i64 (-1)) ∧ Below w.heap.size w w' := by
  have HX := Lib.hid (Boxed.start w a b c)
  go_enter Try.func25, Try.ntmps25
  go_wp2_with (go_at_call 40; refine (inArea_not h _ g _ _).mono ?_; rintro e w1 ⟨rfl, hb⟩)
  go_ret
  exact ⟨rfl, (HX.out.below hb).bl⟩
set_option maxRecDepth 100000 in
set_option maxHeartbeats 800000 in
theorem what_not (h : rightB a b c = false) (g : Int) (w : World) :
    Calls Try.prog 7 #[.agg #[.int .i64 a, .int .i64 b, .int .i64 c], .int .i64 g] w fun e w' => e = .returned (.tuple #[.int .i64 0, .int .i64 0, .int .i64 0]) ∧ Below w.heap.size w w' := by
  have HX := Lib.hid (Boxed.start w a b c)
  go_enter Try.func7, Try.ntmps7
  go_wp2_with (go_at_call 9; refine (right_any a b c _).mono ?_; rw [h]; rintro e w1 ⟨rfl, hb⟩)
  go_ret3
  exact ⟨rfl, (HX.out.below hb).bl⟩
end
end Go.Proofs.Ytapejjlnicmfiaa
