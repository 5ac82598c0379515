/- plan's calls by a right shape: how many blocks, the segment number, the first index; the blocks of units. -/
import Derived.Test.YtapejjlnicmfiaaPlanCalls
namespace Go.Proofs.Ytapejjlnicmfiaa
open Go.RowKit
section
variable {a b c : Int}
set_option maxRecDepth 100000 in
set_option maxHeartbeats 1600000 in
theorem record_not (h : rightB a b c = false) (i : Int) (w : World) :
    Calls Try.prog 17 #[.agg #[.int .i64 a, .int .i64 b, .int .i64 c], .int .i64 i] w fun e w' => e = .returned (.int .i64 (-1)) ∧ Below w.heap.size w w' := by
  have HX := Lib.hid (Boxed.start w a b c)
  go_enter Try.func17, Try.ntmps17
  go_wp2_with (go_at_call 13; refine (segment_not h i _).mono ?_; rintro e w1 ⟨rfl, hb⟩; have HX1 := Lib.hid (HX.out.below hb); clear hb; obtain ⟨d0, d1, d2⟩ := HX1.out.cells)
  go_region_held3 (fun w' => w'.cell? ⟨w.heap.size, 0, none⟩ = some (.int .i64 a) ∧ w'.cell? ⟨w.heap.size, 1, none⟩ = some (.int .i64 b) ∧ w'.cell? ⟨w.heap.size, 2, none⟩ = some (.int .i64 c)) (first | exact ⟨d0, d1, d2⟩ | exact ⟨q0, q1, q2⟩)
    (first
      | (go_at_call 15; refine (first_not h _ _).mono ?_; rintro e w2 ⟨rfl, hb⟩; have HX2 := Lib.hid (show Boxed w w2 a b c from by first | exact HX1.out.below hb | exact HX1.out.drew.below hb); clear hb d0 d1 d2; obtain ⟨q0, q1, q2⟩ := HX2.out.cells)
      | (go_at_call 37; refine (inSegment_not h _ _ _ _).mono ?_; rintro e w3 ⟨rfl, hb⟩; have HX3 := Lib.hid (show Boxed w w3 a b c from by first | exact HX2.out.below hb | exact HX2.out.drew.below hb); clear hb q0 q1 q2; obtain ⟨q0, q1, q2⟩ := HX3.out.cells)
      | fail)
  all_goals go_wp2_with fail
  all_goals go_ret
  all_goals first | exact ⟨rfl, HX3.out.bl⟩ | exact ⟨rfl, HX3.out.drew.bl⟩
end
def segN (R : Nat) (i : Int) : Int := if 1 ≤ i ∧ i ≤ 1099511627776 then (i - 1) / (R : Int) else -1
def fstN (R : Nat) (g : Int) : Int := if 0 ≤ g ∧ g ≤ 1099511627776 then g * (R : Int) + 1 else -1
section
variable {S R P : Nat}
theorem one_part (x l u : Int) : [((x, l, u) : PartI)].all PartI.okB = decide (l ≤ x ∧ x ≤ u) := by
  unfold PartI.okB
  simp only [List.all_cons, List.all_nil, Bool.and_true, ← Bool.decide_and]
set_option maxRecDepth 100000 in
set_option maxHeartbeats 1600000 in
theorem blocks_any (h : Pl.Right S R P) (w : World) :
    Calls Try.prog 11 #[shapeV S R P] w fun e w' => e = .returned (.int .i64 (Pl.all S R P : Int)) ∧ Below w.heap.size w w' := by
  have HX := Lib.hid (Boxed.start w (S : Int) (R : Int) (P : Int))
  obtain ⟨T, M, hT, _, _, hm⟩ := segs_parts h
  have hf : Pl.fst S R 8 = 6 + T := by simp only [Pl.fst, hT]
  have ha : Pl.all S R P = 6 + T + 2 * (P + 1) := by simp only [Pl.all, hT]
  have hp := h.p1
  have hR := right_of h
  have hF := fun w => first_any h 8 (by decide) (by decide) w
  rw [hf] at hF
  have HF := Lib.hid hF
  clear hF hf
  go_enter Try.func11, Try.ntmps11
  go_wp2_with (go_at_call 9; refine (right_any (S : Int) (R : Int) (P : Int) _).mono ?_; rw [hR]; rintro e w1 ⟨rfl, hb⟩; have HX1 := Lib.hid (HX.out.below hb); clear hb; obtain ⟨d0, d1, d2⟩ := HX1.out.cells)
  go_region_held3 (fun w' => w'.cell? ⟨w.heap.size, 0, none⟩ = some (.int .i64 (S : Int)) ∧ w'.cell? ⟨w.heap.size, 1, none⟩ = some (.int .i64 (R : Int)) ∧ w'.cell? ⟨w.heap.size, 2, none⟩ = some (.int .i64 (P : Int))) (first | exact ⟨d0, d1, d2⟩ | exact ⟨q0, q1, q2⟩)
    (first
      | (go_at_call 35; refine (HF.out _).mono ?_; rintro e w2 ⟨rfl, hb⟩; have HX2 := Lib.hid (show Boxed w w2 _ _ _ from by first | exact HX1.out.below hb | exact HX1.out.drew.below hb | exact HX3.out.below hb | exact HX3.out.drew.below hb); clear hb; obtain ⟨q0, q1, q2⟩ := HX2.out.cells)
      | (go_at_call 36; (with_reducible refine (areaBlocks_any h _).mono ?_); rintro e w3 ⟨rfl, hb⟩; have HX3 := Lib.hid (show Boxed w w3 _ _ _ from by first | exact HX2.out.below hb | exact HX2.out.drew.below hb | exact HX1.out.below hb | exact HX1.out.drew.below hb); clear hb; obtain ⟨q0, q1, q2⟩ := HX3.out.cells)
      | fail)
  all_goals go_wp2_with fail
  all_goals go_ret
  all_goals refine ⟨ret_int ?_, (by first | exact HX3.out.bl | exact HX2.out.bl | exact HX3.out.drew.bl | exact HX2.out.drew.bl)⟩
  all_goals rw [IntWalk.i64_in (2 * ((P : Int) + 1)) (by omega), IntWalk.i64_in _ (by omega), ha]
  all_goals omega
set_option maxRecDepth 100000 in
set_option maxHeartbeats 1600000 in
theorem segment_any (h : Pl.Right S R P) (i : Int) (w : World) :
    Calls Try.prog 13 #[shapeV S R P, .int .i64 i] w fun e w' => e = .returned (.int .i64 (segN R i)) ∧ Below w.heap.size w w' := by
  have HX := Lib.hid (Boxed.start w (S : Int) (R : Int) (P : Int))
  have hr := h.r0
  have hR := right_of h
  have hE := Lib.hid (show segN R i = if 1 ≤ i ∧ i ≤ 1099511627776 then (i - 1) / (R : Int) else -1 from rfl)
  by_cases hi : 1 ≤ i ∧ i ≤ 1099511627776
  · have hd : decide (1 ≤ i ∧ i ≤ 1099511627776) = true := decide_eq_true hi
    go_enter Try.func13, Try.ntmps13
    go_wp2_with (first | (go_at_call 9; refine (right_any (S : Int) (R : Int) (P : Int) _).mono ?_; rw [hR]; rintro e w1 ⟨rfl, hb⟩; have HX1 := Lib.hid (HX.out.below hb); clear hb; obtain ⟨d0, d1, d2⟩ := HX1.out.cells) | (go_at_call 34; refine (within_any [((i, 1, 1099511627776) : PartI)] _ _ (partsIn_lit _ [((i, 1, 1099511627776) : PartI)] _) (by simp)).mono ?_; rw [one_part, hd]; rintro e w2 ⟨rfl, hb⟩; have HX2 := Lib.hid ((HX1.out.alloc _).below hb); clear hb d0 d1 d2; obtain ⟨d0, d1, d2⟩ := HX2.out.cells))
    go_ret
    exact ⟨ret_int (by rw [hE.out, if_pos hi]), HX2.out.bl⟩
  · have hd : decide (1 ≤ i ∧ i ≤ 1099511627776) = false := decide_eq_false hi
    go_enter Try.func13, Try.ntmps13
    go_wp2_with (first | (go_at_call 9; refine (right_any (S : Int) (R : Int) (P : Int) _).mono ?_; rw [hR]; rintro e w1 ⟨rfl, hb⟩; have HX1 := Lib.hid (HX.out.below hb); clear hb; obtain ⟨d0, d1, d2⟩ := HX1.out.cells) | (go_at_call 34; refine (within_any [((i, 1, 1099511627776) : PartI)] _ _ (partsIn_lit _ [((i, 1, 1099511627776) : PartI)] _) (by simp)).mono ?_; rw [one_part, hd]; rintro e w2 ⟨rfl, hb⟩; have HX2 := Lib.hid ((HX1.out.alloc _).below hb); clear hb d0 d1 d2; obtain ⟨d0, d1, d2⟩ := HX2.out.cells))
    go_ret
    exact ⟨ret_int (by rw [hE.out, if_neg hi]), HX2.out.bl⟩
set_option maxRecDepth 100000 in
set_option maxHeartbeats 1600000 in
theorem firstN_any (h : Pl.Right S R P) (i : Int) (w : World) :
    Calls Try.prog 15 #[shapeV S R P, .int .i64 i] w fun e w' => e = .returned (.int .i64 (fstN R i)) ∧ Below w.heap.size w w' := by
  have HX := Lib.hid (Boxed.start w (S : Int) (R : Int) (P : Int))
  have hr := h.r0
  have hr1 := h.r1
  have hR := right_of h
  have hE := Lib.hid (show fstN R i = if 0 ≤ i ∧ i ≤ 1099511627776 then i * (R : Int) + 1 else -1 from rfl)
  by_cases hi : 0 ≤ i ∧ i ≤ 1099511627776
  · have hd : decide (0 ≤ i ∧ i ≤ 1099511627776) = true := decide_eq_true hi
    have hm0 : 0 ≤ i * (R : Int) := Int.mul_nonneg hi.1 (by omega)
    have hm1 : i * (R : Int) ≤ 1099511627776 * 32 := Int.mul_le_mul hi.2 (by omega) (by omega) (by omega)
    go_enter Try.func15, Try.ntmps15
    go_wp2_with (first | (go_at_call 9; refine (right_any (S : Int) (R : Int) (P : Int) _).mono ?_; rw [hR]; rintro e w1 ⟨rfl, hb⟩; have HX1 := Lib.hid (HX.out.below hb); clear hb; obtain ⟨d0, d1, d2⟩ := HX1.out.cells) | (go_at_call 34; refine (within_any [((i, 0, 1099511627776) : PartI)] _ _ (partsIn_lit _ [((i, 0, 1099511627776) : PartI)] _) (by simp)).mono ?_; rw [one_part, hd]; rintro e w2 ⟨rfl, hb⟩; have HX2 := Lib.hid ((HX1.out.alloc _).below hb); clear hb d0 d1 d2; obtain ⟨d0, d1, d2⟩ := HX2.out.cells))
    go_ret
    exact ⟨ret_int (by rw [hE.out, if_pos hi]), HX2.out.bl⟩
  · have hd : decide (0 ≤ i ∧ i ≤ 1099511627776) = false := decide_eq_false hi
    go_enter Try.func15, Try.ntmps15
    go_wp2_with (first | (go_at_call 9; refine (right_any (S : Int) (R : Int) (P : Int) _).mono ?_; rw [hR]; rintro e w1 ⟨rfl, hb⟩; have HX1 := Lib.hid (HX.out.below hb); clear hb; obtain ⟨d0, d1, d2⟩ := HX1.out.cells) | (go_at_call 34; refine (within_any [((i, 0, 1099511627776) : PartI)] _ _ (partsIn_lit _ [((i, 0, 1099511627776) : PartI)] _) (by simp)).mono ?_; rw [one_part, hd]; rintro e w2 ⟨rfl, hb⟩; have HX2 := Lib.hid ((HX1.out.alloc _).below hb); clear hb d0 d1 d2; obtain ⟨d0, d1, d2⟩ := HX2.out.cells))
    go_ret
    exact ⟨ret_int (by rw [hE.out, if_neg hi]), HX2.out.bl⟩
end
end Go.Proofs.Ytapejjlnicmfiaa
