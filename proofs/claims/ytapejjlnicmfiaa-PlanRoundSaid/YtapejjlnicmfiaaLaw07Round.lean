/- PlanRound: the walk. -/
import Derived.Test.YtapejjlnicmfiaaLaw07RoundF
import Derived.Test.YtapejjlnicmfiaaLaw07Awake
namespace Go.Proofs.Ytapejjlnicmfiaa
open Go.RowKit
set_option maxRecDepth 100000 in
set_option maxHeartbeats 4000000 in
theorem round_not {a b c : Int} (h : rightB a b c = false) (i k : Int) (w : World) :
    Calls Try.prog 6 #[.agg #[.int .i64 a, .int .i64 b, .int .i64 c], .int .i64 i, .int .i64 k] w fun e w' => e = .returned (.bool true) ∧ Below w.heap.size w w' := by
  have HX := Lib.hid (Boxed.start w a b c)
  obtain ⟨d0, d1, d2⟩ := HX.out.cells
  have HA := Lib.hid awake_any
  have HR : Hid (∀ w, Calls Try.prog 9 #[.agg #[.int .i64 a, .int .i64 b, .int .i64 c]] w fun e w' => e = .returned (.bool false) ∧ Below w.heap.size w w') := Lib.hid (fun w => by have := right_any a b c w; rw [h] at this; exact this)
  go_enter Try.func6, Try.ntmps6
  go_wp2_with (first | (go_at_call 27; (with_reducible refine (HA.out _).mono ?_); rintro e w1 ⟨rfl, hb⟩; replace HX := Lib.hid (HX.out.below hb); clear hb d0 d1 d2; obtain ⟨d0, d1, d2⟩ := HX.out.cells) | (go_at_call 9; (with_reducible refine (HR.out _).mono ?_); rintro e w1 ⟨rfl, hb⟩; replace HX := Lib.hid (HX.out.below hb); clear hb d0 d1 d2; obtain ⟨d0, d1, d2⟩ := HX.out.cells))
  go_ret
  exact ⟨rfl, HX.out.bl⟩
set_option maxRecDepth 100000 in
set_option maxHeartbeats 4000000 in
theorem round_out {S R P : Nat} (h : Pl.Right S R P) (i k : Int) (ho : i < 1 ∨ (1 ≤ i ∧ 1099511627776 < i) ∨ (1 ≤ i ∧ i ≤ 1099511627776 ∧ k < 1) ∨ (1 ≤ i ∧ i ≤ 1099511627776 ∧ 1 ≤ k ∧ 1099511627776 < k)) (w : World) :
    Calls Try.prog 6 #[shapeV S R P, .int .i64 i, .int .i64 k] w fun e w' => e = .returned (.bool true) ∧ Below w.heap.size w w' := by
  have HX := Lib.hid (Boxed.start w (S : Int) (R : Int) (P : Int))
  obtain ⟨d0, d1, d2⟩ := HX.out.cells
  have HA := Lib.hid awake_any
  have HR : Hid (∀ w, Calls Try.prog 9 #[.agg #[.int .i64 (S : Int), .int .i64 (R : Int), .int .i64 (P : Int)]] w fun e w' => e = .returned (.bool true) ∧ Below w.heap.size w w') := Lib.hid (fun w => by have := right_any (S : Int) (R : Int) (P : Int) w; rw [right_of h] at this; exact this)
  rcases ho with ho | ⟨h0, ho⟩ | ⟨h0, h1, ho⟩ | ⟨h0, h1, h2, ho⟩
  all_goals go_enter Try.func6, Try.ntmps6
  all_goals go_wp2_with (first | (go_at_call 27; (with_reducible refine (HA.out _).mono ?_); rintro e w1 ⟨rfl, hb⟩; replace HX := Lib.hid (HX.out.below hb); clear hb d0 d1 d2; obtain ⟨d0, d1, d2⟩ := HX.out.cells) | (go_at_call 9; (with_reducible refine (HR.out _).mono ?_); rintro e w1 ⟨rfl, hb⟩; replace HX := Lib.hid (HX.out.below hb); clear hb d0 d1 d2; obtain ⟨d0, d1, d2⟩ := HX.out.cells))
  all_goals go_ret
  all_goals exact ⟨rfl, HX.out.bl⟩
set_option maxRecDepth 100000 in
set_option maxHeartbeats 4000000 in
theorem round_in {S R P : Nat} (h : Pl.Right S R P) {i k : Int} (i0 : 1 ≤ i) (i1 : i ≤ 1099511627776) (k0 : 1 ≤ k) (k1 : k ≤ 1099511627776) (w : World) :
    Calls Try.prog 6 #[shapeV S R P, .int .i64 i, .int .i64 k] w fun e w' => e = .returned (.bool true) ∧ Below w.heap.size w w' := by
  have HX := Lib.hid (Boxed.start w (S : Int) (R : Int) (P : Int))
  obtain ⟨d0, d1, d2⟩ := HX.out.cells
  have HA := Lib.hid awake_any
  have HR : Hid (∀ w, Calls Try.prog 9 #[.agg #[.int .i64 (S : Int), .int .i64 (R : Int), .int .i64 (P : Int)]] w fun e w' => e = .returned (.bool true) ∧ Below w.heap.size w w') := Lib.hid (fun w => by have := right_any (S : Int) (R : Int) (P : Int) w; rw [right_of h] at this; exact this)
  obtain ⟨f1, f2, f3, f4, f5, f6, f7, f8, f9⟩ := round_facts h i0 i1 k0 k1
  have HS := Lib.hid (segment_any h i)
  generalize segN R i = g at *
  have H1 := Lib.hid (record_any h i)
  have H2 := Lib.hid (record_any h k)
  have H3 := Lib.hid (head_any h g)
  have H4 := Lib.hid (foot_any h g)
  have H5 := Lib.hid (firstN_any h g)
  have H6 := Lib.hid (firstN_any h (g + 1))
  generalize recI S R P i = A at *
  generalize recI S R P k = B at *
  generalize inSegI S R P 4 g 0 = hd at *
  generalize inSegI S R P 6 g 0 = ft at *
  generalize fstN R (g + 1) = nx at *
  generalize fstN R g = fs at *
  have r0 := h.s0
  have r1 := h.s1
  have r2 := h.r0
  have r3 := h.r1
  have hS3 : ¬S = 0 := by omega
  have hR3 : ¬R = 0 := by omega
  have hm1 : S * R ≤ 16 * 32 := Nat.mul_le_mul r1 r3
  have hp0 : (0 : Int) ≤ (S : Int) * (R : Int) := by rw [← Int.natCast_mul]; omega
  have hp1 : (S : Int) * (R : Int) ≤ 512 := by rw [← Int.natCast_mul]; omega
  have hq : ¬((S : Int) * (R : Int) = 0) := by
    rw [← Int.natCast_mul]
    have := Nat.mul_pos (show 0 < S by omega) (show 0 < R by omega)
    omega
  clear hm1
  subst f6
  have hw : IntKind.i64.wrap (g + 1) = g + 1 := IntWalk.i64_in _ (by omega)
  have H7 : Hid (((g == 0) == (fs == 1)) = true) := Lib.hid (by
    by_cases hz : g = 0
    · rw [hz, f7.1 hz]; rfl
    · have hf : ¬fs = 1 := fun e => hz (f7.2 e)
      have e1 : (g == 0) = false := by simpa using hz
      have e2 : (fs == 1) = false := by simpa using hf
      rw [e1, e2]; rfl)
  clear f7
  by_cases he : A = B
  · have ht := f1.1 he
    clear f1
    subst he
    go_enter Try.func6, Try.ntmps6
    go_wp2_with (first | (go_at_call 27; (with_reducible refine (HA.out _).mono ?_); rintro e w1 ⟨rfl, hb⟩; replace HX := Lib.hid (HX.out.below hb); clear hb d0 d1 d2; obtain ⟨d0, d1, d2⟩ := HX.out.cells) | (go_at_call 9; (with_reducible refine (HR.out _).mono ?_); rintro e w1 ⟨rfl, hb⟩; replace HX := Lib.hid (HX.out.below hb); clear hb d0 d1 d2; obtain ⟨d0, d1, d2⟩ := HX.out.cells) | (go_at_call 13; (with_reducible refine (HS.out _).mono ?_); rintro e w1 ⟨rfl, hb⟩; replace HX := Lib.hid (HX.out.below hb); clear hb d0 d1 d2; obtain ⟨d0, d1, d2⟩ := HX.out.cells))
    go_region_held3 (fun w' => w'.cell? ⟨w.heap.size, 0, none⟩ = some (.int .i64 (S : Int)) ∧ w'.cell? ⟨w.heap.size, 1, none⟩ = some (.int .i64 (R : Int)) ∧ w'.cell? ⟨w.heap.size, 2, none⟩ = some (.int .i64 (P : Int))) (first | exact ⟨d0, d1, d2⟩)
      (first
      | (go_at_call 17; (with_reducible refine (H1.out _).mono ?_); rintro e w1 ⟨rfl, hb⟩; replace HX := Lib.hid (show Boxed w w1 _ _ _ from by first | exact HX.out.below hb | exact HX.out.drew.below hb); clear hb d0 d1 d2; obtain ⟨d0, d1, d2⟩ := HX.out.cells)
      | (go_at_call 17; (with_reducible refine (H2.out _).mono ?_); rintro e w1 ⟨rfl, hb⟩; replace HX := Lib.hid (show Boxed w w1 _ _ _ from by first | exact HX.out.below hb | exact HX.out.drew.below hb); clear hb d0 d1 d2; obtain ⟨d0, d1, d2⟩ := HX.out.cells)
      | fail)
    all_goals go_wp2_with (first | (go_at_call 19; (with_reducible refine (H3.out _).mono ?_); rintro e w1 ⟨rfl, hb⟩; replace HX := Lib.hid (HX.out.below hb); clear hb d0 d1 d2; obtain ⟨d0, d1, d2⟩ := HX.out.cells) | (go_at_call 21; (with_reducible refine (H4.out _).mono ?_); rintro e w1 ⟨rfl, hb⟩; replace HX := Lib.hid (HX.out.below hb); clear hb d0 d1 d2; obtain ⟨d0, d1, d2⟩ := HX.out.cells))
    all_goals go_region_held3 (fun w' => w'.cell? ⟨w.heap.size, 0, none⟩ = some (.int .i64 (S : Int)) ∧ w'.cell? ⟨w.heap.size, 1, none⟩ = some (.int .i64 (R : Int)) ∧ w'.cell? ⟨w.heap.size, 2, none⟩ = some (.int .i64 (P : Int))) (first | exact ⟨d0, d1, d2⟩)
      (first
      | (go_at_call 15; (with_reducible refine (H5.out _).mono ?_); rintro e w1 ⟨rfl, hb⟩; replace HX := Lib.hid (show Boxed w w1 _ _ _ from by first | exact HX.out.below hb | exact HX.out.drew.below hb); clear hb d0 d1 d2; obtain ⟨d0, d1, d2⟩ := HX.out.cells)
      | (go_at_call 15; (with_reducible refine (H6.out _).mono ?_); rintro e w1 ⟨rfl, hb⟩; replace HX := Lib.hid (show Boxed w w1 _ _ _ from by first | exact HX.out.below hb | exact HX.out.drew.below hb); clear hb d0 d1 d2; obtain ⟨d0, d1, d2⟩ := HX.out.cells)
      | fail)
    all_goals go_wp2_with fail
    all_goals go_ret
    all_goals exact ⟨ret_bool H7.out, by first | exact HX.out.bl | exact HX.out.drew.bl⟩
  · have ht : ¬Int.tmod (i - k) ((S : Int) * (R : Int)) = 0 := fun e => he (f1.2 e)
    have hb1 : (A == B) = false := by simpa using he
    have hb2 : (Int.tmod (i - k) ((S : Int) * (R : Int)) == 0) = false := by simpa using ht
    clear f1
    go_enter Try.func6, Try.ntmps6
    go_wp2_with (first | (go_at_call 27; (with_reducible refine (HA.out _).mono ?_); rintro e w1 ⟨rfl, hb⟩; replace HX := Lib.hid (HX.out.below hb); clear hb d0 d1 d2; obtain ⟨d0, d1, d2⟩ := HX.out.cells) | (go_at_call 9; (with_reducible refine (HR.out _).mono ?_); rintro e w1 ⟨rfl, hb⟩; replace HX := Lib.hid (HX.out.below hb); clear hb d0 d1 d2; obtain ⟨d0, d1, d2⟩ := HX.out.cells) | (go_at_call 13; (with_reducible refine (HS.out _).mono ?_); rintro e w1 ⟨rfl, hb⟩; replace HX := Lib.hid (HX.out.below hb); clear hb d0 d1 d2; obtain ⟨d0, d1, d2⟩ := HX.out.cells))
    go_region_held3 (fun w' => w'.cell? ⟨w.heap.size, 0, none⟩ = some (.int .i64 (S : Int)) ∧ w'.cell? ⟨w.heap.size, 1, none⟩ = some (.int .i64 (R : Int)) ∧ w'.cell? ⟨w.heap.size, 2, none⟩ = some (.int .i64 (P : Int))) (first | exact ⟨d0, d1, d2⟩)
      (first
      | (go_at_call 17; (with_reducible refine (H1.out _).mono ?_); rintro e w1 ⟨rfl, hb⟩; replace HX := Lib.hid (show Boxed w w1 _ _ _ from by first | exact HX.out.below hb | exact HX.out.drew.below hb); clear hb d0 d1 d2; obtain ⟨d0, d1, d2⟩ := HX.out.cells)
      | (go_at_call 17; (with_reducible refine (H2.out _).mono ?_); rintro e w1 ⟨rfl, hb⟩; replace HX := Lib.hid (show Boxed w w1 _ _ _ from by first | exact HX.out.below hb | exact HX.out.drew.below hb); clear hb d0 d1 d2; obtain ⟨d0, d1, d2⟩ := HX.out.cells)
      | fail)
    all_goals go_wp2_with (first | (go_at_call 19; (with_reducible refine (H3.out _).mono ?_); rintro e w1 ⟨rfl, hb⟩; replace HX := Lib.hid (HX.out.below hb); clear hb d0 d1 d2; obtain ⟨d0, d1, d2⟩ := HX.out.cells) | (go_at_call 21; (with_reducible refine (H4.out _).mono ?_); rintro e w1 ⟨rfl, hb⟩; replace HX := Lib.hid (HX.out.below hb); clear hb d0 d1 d2; obtain ⟨d0, d1, d2⟩ := HX.out.cells))
    all_goals go_region_held3 (fun w' => w'.cell? ⟨w.heap.size, 0, none⟩ = some (.int .i64 (S : Int)) ∧ w'.cell? ⟨w.heap.size, 1, none⟩ = some (.int .i64 (R : Int)) ∧ w'.cell? ⟨w.heap.size, 2, none⟩ = some (.int .i64 (P : Int))) (first | exact ⟨d0, d1, d2⟩)
      (first
      | (go_at_call 15; (with_reducible refine (H5.out _).mono ?_); rintro e w1 ⟨rfl, hb⟩; replace HX := Lib.hid (show Boxed w w1 _ _ _ from by first | exact HX.out.below hb | exact HX.out.drew.below hb); clear hb d0 d1 d2; obtain ⟨d0, d1, d2⟩ := HX.out.cells)
      | (go_at_call 15; (with_reducible refine (H6.out _).mono ?_); rintro e w1 ⟨rfl, hb⟩; replace HX := Lib.hid (show Boxed w w1 _ _ _ from by first | exact HX.out.below hb | exact HX.out.drew.below hb); clear hb d0 d1 d2; obtain ⟨d0, d1, d2⟩ := HX.out.cells)
      | fail)
    all_goals go_wp2_with fail
    all_goals go_ret
    all_goals exact ⟨ret_bool H7.out, by first | exact HX.out.bl | exact HX.out.drew.bl⟩
/-- PlanRound, of any shape and any two indices. -/
theorem planRound_any (a b c i k : Int) (w : World) :
    Calls Try.prog 6 #[.agg #[.int .i64 a, .int .i64 b, .int .i64 c], .int .i64 i, .int .i64 k] w fun e w' => e = .returned (.bool true) ∧ Below w.heap.size w w' := by
  cases hr : rightB a b c with
  | true =>
    obtain ⟨S, R, P, rfl, rfl, rfl, h⟩ := right_shape hr
    by_cases ho : i < 1 ∨ (1 ≤ i ∧ 1099511627776 < i) ∨ (1 ≤ i ∧ i ≤ 1099511627776 ∧ k < 1) ∨ (1 ≤ i ∧ i ≤ 1099511627776 ∧ 1 ≤ k ∧ 1099511627776 < k)
    · exact round_out h i k ho w
    · exact round_in h (by omega) (by omega) (by omega) (by omega) w
  | false => exact round_not hr i k w
end Go.Proofs.Ytapejjlnicmfiaa
