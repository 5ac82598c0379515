/- The document's calls of layer 7, by a shape that is right, and by one that is not. -/
import Derived.Test.YtapejjlnicmfiaaRef7Find
namespace Go.Proofs.Ytapejjlnicmfiaa
open Go.RowKit
section
variable {a b c : Int}
set_option maxRecDepth 100000 in
set_option maxHeartbeats 1600000 in
theorem rblocks_not (h : rightB a b c = false) (w : World) :
    Calls Try.prog 12 #[.agg #[.int .i64 a, .int .i64 b, .int .i64 c]] w fun e w' => e = .returned (.int .i64 0) ∧ Below w.heap.size w w' := by
  have HX := Lib.hid (Boxed.start w a b c)
  go_enter Try.func12, Try.ntmps12
  go_wp2_with (go_at_call 33; refine (cells_not h _).mono ?_; rintro e w1 ⟨rfl, hb⟩)
  go_ret
  exact ⟨rfl, (HX.out.below hb).bl⟩
set_option maxRecDepth 100000 in
set_option maxHeartbeats 1600000 in
theorem rsegment_not (h : rightB a b c = false) (i : Int) (w : World) :
    Calls Try.prog 14 #[.agg #[.int .i64 a, .int .i64 b, .int .i64 c], .int .i64 i] w fun e w' => e = .returned (.int .i64 (-1)) ∧ Below w.heap.size w w' := by
  have HX := Lib.hid (Boxed.start w a b c)
  go_enter Try.func14, Try.ntmps14
  go_wp2_with (go_at_call 10; refine (rright_any a b c _).mono ?_; rw [h]; rintro e w1 ⟨rfl, hb⟩)
  go_ret
  exact ⟨rfl, (HX.out.below hb).bl⟩
set_option maxRecDepth 100000 in
set_option maxHeartbeats 1600000 in
theorem rfirst_not (h : rightB a b c = false) (g : Int) (w : World) :
    Calls Try.prog 16 #[.agg #[.int .i64 a, .int .i64 b, .int .i64 c], .int .i64 g] w fun e w' => e = .returned (.int .i64 (-1)) ∧ Below w.heap.size w w' := by
  have HX := Lib.hid (Boxed.start w a b c)
  go_enter Try.func16, Try.ntmps16
  go_wp2_with (go_at_call 10; refine (rright_any a b c _).mono ?_; rw [h]; rintro e w1 ⟨rfl, hb⟩)
  go_ret
  exact ⟨rfl, (HX.out.below hb).bl⟩
set_option maxRecDepth 100000 in
set_option maxHeartbeats 1600000 in
theorem rrecord_not (h : rightB a b c = false) (i : Int) (w : World) :
    Calls Try.prog 18 #[.agg #[.int .i64 a, .int .i64 b, .int .i64 c], .int .i64 i] w fun e w' => e = .returned (.int .i64 (-1)) ∧ Below w.heap.size w w' := by
  have HX := Lib.hid (Boxed.start w a b c)
  go_enter Try.func18, Try.ntmps18
  go_wp2_with (go_at_call 14; refine (rsegment_not h i _).mono ?_; rintro e w1 ⟨rfl, hb⟩)
  go_ret
  exact ⟨rfl, (HX.out.below hb).bl⟩
set_option maxRecDepth 100000 in
set_option maxHeartbeats 1600000 in
theorem rend_not (h : rightB a b c = false) (g k : Int) (w : World) :
    Calls Try.prog 39 #[.agg #[.int .i64 a, .int .i64 b, .int .i64 c], .int .i64 g, .int .i64 k] w fun e w' => e = .returned (.int .i64 (-1)) ∧ Below w.heap.size w w' := by
  have HX := Lib.hid (Boxed.start w a b c)
  go_enter Try.func39, Try.ntmps39
  go_wp2_with (go_at_call 16; refine (rfirst_not h g _).mono ?_; rintro e w1 ⟨rfl, hb⟩)
  go_ret
  exact ⟨rfl, (HX.out.below hb).bl⟩
set_option maxRecDepth 100000 in
set_option maxHeartbeats 1600000 in
theorem rhead_not (h : rightB a b c = false) (g : Int) (w : World) :
    Calls Try.prog 20 #[.agg #[.int .i64 a, .int .i64 b, .int .i64 c], .int .i64 g] w fun e w' => e = .returned (.int .i64 (-1)) ∧ Below w.heap.size w w' := by
  have HX := Lib.hid (Boxed.start w a b c)
  go_enter Try.func20, Try.ntmps20
  go_wp2_with (go_at_call 39; refine (rend_not h g _ _).mono ?_; rintro e w1 ⟨rfl, hb⟩)
  go_ret
  exact ⟨rfl, (HX.out.below hb).bl⟩
set_option maxRecDepth 100000 in
set_option maxHeartbeats 1600000 in
theorem rfoot_not (h : rightB a b c = false) (g : Int) (w : World) :
    Calls Try.prog 22 #[.agg #[.int .i64 a, .int .i64 b, .int .i64 c], .int .i64 g] w fun e w' => e = .returned (.int .i64 (-1)) ∧ Below w.heap.size w w' := by
  have HX := Lib.hid (Boxed.start w a b c)
  go_enter Try.func22, Try.ntmps22
  go_wp2_with (go_at_call 39; refine (rend_not h g _ _).mono ?_; rintro e w1 ⟨rfl, hb⟩)
  go_ret
  exact ⟨rfl, (HX.out.below hb).bl⟩
set_option maxRecDepth 100000 in
set_option maxHeartbeats 1600000 in
theorem find_not (h : rightB a b c = false) (x y z : Int) (w : World) :
    Calls Try.prog 38 #[.agg #[.int .i64 a, .int .i64 b, .int .i64 c], .agg #[.int .i64 x, .int .i64 y, .int .i64 z]] w fun e w' => e = .returned (.int .i64 (-1)) ∧ Below w.heap.size w w' := by
  have HX := Lib.hid ((Boxed.start w a b c).alloc (.cells #[.int .i64 x, .int .i64 y, .int .i64 z] 48))
  go_enter Try.func38, Try.ntmps38
  go_wp2_with (go_at_call 33; refine (cells_not h _).mono ?_; rintro e w1 ⟨rfl, hb⟩)
  go_loopg [6] 0 (fun _ o wx => o = .int .i64 0 ∧ wx = w1)
  case atStart => exact ⟨rfl, rfl⟩
  case round =>
    obtain ⟨rfl, rfl⟩ := hrel
    go_wp2_with fail
    go_ret
    exact ⟨rfl, (HX.out.below hb).bl⟩
set_option maxRecDepth 100000 in
set_option maxHeartbeats 1600000 in
theorem rsnap_not (h : rightB a b c = false) (g : Int) (w : World) :
    Calls Try.prog 24 #[.agg #[.int .i64 a, .int .i64 b, .int .i64 c], .int .i64 g] w fun e w' => e = .returned (.int .i64 (-1)) ∧ Below w.heap.size w w' := by
  have HX := Lib.hid (Boxed.start w a b c)
  go_enter Try.func24, Try.ntmps24
  go_wp2_with (go_at_call 38; refine (find_not h _ _ _ _).mono ?_; rintro e w1 ⟨rfl, hb⟩)
  go_ret
  exact ⟨rfl, (HX.out.below hb).bl⟩
set_option maxRecDepth 100000 in
set_option maxHeartbeats 1600000 in
theorem rpiece_not (h : rightB a b c = false) (g k : Int) (w : World) :
    Calls Try.prog 26 #[.agg #[.int .i64 a, .int .i64 b, .int .i64 c], .int .i64 g, .int .i64 k] w fun e w' => e = .returned (.int .i64 (-1)) ∧ Below w.heap.size w w' := by
  have HX := Lib.hid (Boxed.start w a b c)
  go_enter Try.func26, Try.ntmps26
  go_wp2_with (go_at_call 38; refine (find_not h _ _ _ _).mono ?_; rintro e w1 ⟨rfl, hb⟩)
  go_ret
  exact ⟨rfl, (HX.out.below hb).bl⟩
set_option maxRecDepth 100000 in
set_option maxHeartbeats 1600000 in
theorem rwhat_not (h : rightB a b c = false) (g : Int) (w : World) :
    Calls Try.prog 8 #[.agg #[.int .i64 a, .int .i64 b, .int .i64 c], .int .i64 g] w fun e w' => e = .returned (.tuple #[.int .i64 0, .int .i64 0, .int .i64 0]) ∧ Below w.heap.size w w' := by
  have HX := Lib.hid (Boxed.start w a b c)
  by_cases hg : g < 0
  all_goals go_enter Try.func8, Try.ntmps8
  all_goals go_wp2_with (go_at_call 33; refine (cells_not h _).mono ?_; rintro e w1 ⟨rfl, hb⟩)
  all_goals go_ret3
  all_goals exact ⟨rfl, (HX.out.below hb).bl⟩
end
section
variable {S R P : Nat}
set_option maxRecDepth 100000 in
set_option maxHeartbeats 1600000 in
theorem rblocks_any (h : Pl.Right S R P) (w : World) :
    Calls Try.prog 12 #[shapeV S R P] w fun e w' => e = .returned (.int .i64 (Pl.all S R P : Int)) ∧ Below w.heap.size w w' := by
  have HX := Lib.hid (Boxed.start w (S : Int) (R : Int) (P : Int))
  go_enter Try.func12, Try.ntmps12
  go_wp2_with (go_at_call 33; refine (cells_any h _).mono ?_; rintro e w1 ⟨v, rfl, hC⟩; have HX1 := Lib.hid (HX.out.bl.trans (hC.bx.bl.mono HX.out.bl.size)); obtain ⟨X, cap, rfl, _, _⟩ := hC.slice; clear hC)
  go_ret
  exact ⟨rfl, HX1.out⟩
set_option maxRecDepth 100000 in
set_option maxHeartbeats 1600000 in
theorem rsegment_any (h : Pl.Right S R P) (i : Int) (w : World) :
    Calls Try.prog 14 #[shapeV S R P, .int .i64 i] w fun e w' => e = .returned (.int .i64 (segN R i)) ∧ Below w.heap.size w w' := by
  have HX := Lib.hid (Boxed.start w (S : Int) (R : Int) (P : Int))
  have hr := h.r0
  have hr1 := h.r1
  have hR := right_of h
  have hE := Lib.hid (show segN R i = if 1 ≤ i ∧ i ≤ 1099511627776 then (i - 1) / (R : Int) else -1 from rfl)
  rcases (show i < 1 ∨ (1 ≤ i ∧ 1099511627776 < i) ∨ (1 ≤ i ∧ i ≤ 1099511627776) by omega) with hi | ⟨hi, hj⟩ | ⟨hi, hj⟩
  · go_enter Try.func14, Try.ntmps14
    go_wp2_with (go_at_call 10; refine (rright_any (S : Int) (R : Int) (P : Int) _).mono ?_; rw [hR]; rintro e w1 ⟨rfl, hb⟩; have HX1 := Lib.hid (HX.out.below hb); clear hb; obtain ⟨d0, d1, d2⟩ := HX1.out.cells)
    go_ret
    exact ⟨ret_int (by rw [hE.out, if_neg (by omega)]), HX1.out.bl⟩
  · go_enter Try.func14, Try.ntmps14
    go_wp2_with (go_at_call 10; refine (rright_any (S : Int) (R : Int) (P : Int) _).mono ?_; rw [hR]; rintro e w1 ⟨rfl, hb⟩; have HX1 := Lib.hid (HX.out.below hb); clear hb; obtain ⟨d0, d1, d2⟩ := HX1.out.cells)
    go_ret
    exact ⟨ret_int (by rw [hE.out, if_neg (by omega)]), HX1.out.bl⟩
  · go_enter Try.func14, Try.ntmps14
    go_wp2_with (go_at_call 10; refine (rright_any (S : Int) (R : Int) (P : Int) _).mono ?_; rw [hR]; rintro e w1 ⟨rfl, hb⟩; have HX1 := Lib.hid (HX.out.below hb); clear hb; obtain ⟨d0, d1, d2⟩ := HX1.out.cells)
    go_ret
    exact ⟨ret_int (by rw [hE.out, if_pos ⟨hi, hj⟩]), HX1.out.bl⟩
set_option maxRecDepth 100000 in
set_option maxHeartbeats 1600000 in
theorem rfirst_any (h : Pl.Right S R P) (i : Int) (w : World) :
    Calls Try.prog 16 #[shapeV S R P, .int .i64 i] w fun e w' => e = .returned (.int .i64 (fstN R i)) ∧ Below w.heap.size w w' := by
  have HX := Lib.hid (Boxed.start w (S : Int) (R : Int) (P : Int))
  have hr := h.r0
  have hr1 := h.r1
  have hR := right_of h
  have hE := Lib.hid (show fstN R i = if 0 ≤ i ∧ i ≤ 1099511627776 then i * (R : Int) + 1 else -1 from rfl)
  rcases (show i < 0 ∨ (0 ≤ i ∧ 1099511627776 < i) ∨ (0 ≤ i ∧ i ≤ 1099511627776) by omega) with hi | ⟨hi, hj⟩ | ⟨hi, hj⟩
  · go_enter Try.func16, Try.ntmps16
    go_wp2_with (go_at_call 10; refine (rright_any (S : Int) (R : Int) (P : Int) _).mono ?_; rw [hR]; rintro e w1 ⟨rfl, hb⟩; have HX1 := Lib.hid (HX.out.below hb); clear hb; obtain ⟨d0, d1, d2⟩ := HX1.out.cells)
    go_ret
    exact ⟨ret_int (by rw [hE.out, if_neg (by omega)]), HX1.out.bl⟩
  · go_enter Try.func16, Try.ntmps16
    go_wp2_with (go_at_call 10; refine (rright_any (S : Int) (R : Int) (P : Int) _).mono ?_; rw [hR]; rintro e w1 ⟨rfl, hb⟩; have HX1 := Lib.hid (HX.out.below hb); clear hb; obtain ⟨d0, d1, d2⟩ := HX1.out.cells)
    go_ret
    exact ⟨ret_int (by rw [hE.out, if_neg (by omega)]), HX1.out.bl⟩
  · have hm0 : 0 ≤ i * (R : Int) := Int.mul_nonneg hi (by omega)
    have hm1 : i * (R : Int) ≤ 1099511627776 * 32 := Int.mul_le_mul hj (by omega) (by omega) (by omega)
    go_enter Try.func16, Try.ntmps16
    go_wp2_with (go_at_call 10; refine (rright_any (S : Int) (R : Int) (P : Int) _).mono ?_; rw [hR]; rintro e w1 ⟨rfl, hb⟩; have HX1 := Lib.hid (HX.out.below hb); clear hb; obtain ⟨d0, d1, d2⟩ := HX1.out.cells)
    go_ret
    exact ⟨ret_int (by rw [hE.out, if_pos ⟨hi, hj⟩]), HX1.out.bl⟩
set_option maxRecDepth 100000 in
set_option maxHeartbeats 1600000 in
theorem rsnap_any (h : Pl.Right S R P) (g : Int) (w : World) :
    Calls Try.prog 24 #[shapeV S R P, .int .i64 g] w fun e w' => e = .returned (.int .i64 (blockI S R P 8 g 0)) ∧ Below w.heap.size w w' := by
  have HX := Lib.hid (Boxed.start w (S : Int) (R : Int) (P : Int))
  have HC := Lib.hid (find_any h 8 (by decide) (by decide) g 0)
  go_enter Try.func24, Try.ntmps24
  go_wp2_with (go_at_call 38; refine (HC.out _).mono ?_; rintro e w1 ⟨rfl, hb⟩)
  go_ret
  exact ⟨rfl, (HX.out.below hb).bl⟩
set_option maxRecDepth 100000 in
set_option maxHeartbeats 1600000 in
theorem rpiece_any (h : Pl.Right S R P) (g k : Int) (w : World) :
    Calls Try.prog 26 #[shapeV S R P, .int .i64 g, .int .i64 k] w fun e w' => e = .returned (.int .i64 (blockI S R P 7 g k)) ∧ Below w.heap.size w w' := by
  have HX := Lib.hid (Boxed.start w (S : Int) (R : Int) (P : Int))
  have HC := Lib.hid (find_any h 7 (by decide) (by decide) g k)
  go_enter Try.func26, Try.ntmps26
  go_wp2_with (go_at_call 38; refine (HC.out _).mono ?_; rintro e w1 ⟨rfl, hb⟩)
  go_ret
  exact ⟨rfl, (HX.out.below hb).bl⟩
set_option maxRecDepth 100000 in
set_option maxHeartbeats 1600000 in
theorem rend_any (h : Pl.Right S R P) (g : Int) (k : Nat) (k0 : 1 ≤ k) (k1 : k ≤ 8) (w : World) :
    Calls Try.prog 39 #[shapeV S R P, .int .i64 g, .int .i64 (k : Int)] w fun e w' => e = .returned (.int .i64 (inSegI S R P k g 0)) ∧ Below w.heap.size w w' := by
  have HX := Lib.hid (Boxed.start w (S : Int) (R : Int) (P : Int))
  have hs := h.s0
  have hE := Lib.hid (show inSegI S R P k g 0 = if 0 ≤ g ∧ g ≤ 1099511627776 then blockI S R P k (g % (S : Int)) 0 else -1 from rfl)
  have hf : fstN R g = if 0 ≤ g ∧ g ≤ 1099511627776 then g * (R : Int) + 1 else -1 := rfl
  have HF := Lib.hid (rfirst_any h g)
  have HC := Lib.hid (fun x => find_any h k k0 k1 x 0)
  generalize fstN R g = f at *
  by_cases hg : 0 ≤ g ∧ g ≤ 1099511627776
  · rw [if_pos hg] at hf
    have hm0 : 0 ≤ g * (R : Int) := Int.mul_nonneg hg.1 (by omega)
    have hn : (0 : Int) ≤ f := by omega
    have Hm := Lib.hid (show Int.tmod g (S : Int) = g % (S : Int) from Int.tmod_eq_emod_of_nonneg hg.1)
    have hS3 : ¬S = 0 := by omega
    have hg0 : 0 ≤ g := hg.1
    clear hf hm0
    go_enter Try.func39, Try.ntmps39
    go_wp2_with (go_at_call 16; refine (HF.out _).mono ?_; rintro e w1 ⟨rfl, hb⟩; have HX1 := Lib.hid (HX.out.below hb); clear hb; obtain ⟨d0, d1, d2⟩ := HX1.out.cells)
    go_region_held3 (fun w' => w'.cell? ⟨w.heap.size, 0, none⟩ = some (.int .i64 (S : Int)) ∧ w'.cell? ⟨w.heap.size, 1, none⟩ = some (.int .i64 (R : Int)) ∧ w'.cell? ⟨w.heap.size, 2, none⟩ = some (.int .i64 (P : Int))) (first | exact ⟨d0, d1, d2⟩ | exact ⟨q0, q1, q2⟩)
      (first
        | (go_at_call 38; refine (HC.out _ _).mono ?_; rintro e w2 ⟨rfl, hb⟩; have HX2 := Lib.hid (show Boxed w w2 _ _ _ from by first | exact HX1.out.below hb | exact HX1.out.drew.below hb); clear hb d0 d1 d2; obtain ⟨q0, q1, q2⟩ := HX2.out.cells)
        | fail)
    all_goals go_wp2_with fail
    all_goals go_ret
    all_goals refine ⟨ret_int ?_, (by first | exact HX2.out.bl | exact HX2.out.drew.bl)⟩
    all_goals rw [hE.out, if_pos hg]
    all_goals first | rfl | rw [Hm.out]
  · rw [if_neg hg] at hf
    have hn : f < 0 := by omega
    clear hf
    go_enter Try.func39, Try.ntmps39
    go_wp2_with (go_at_call 16; refine (HF.out _).mono ?_; rintro e w1 ⟨rfl, hb⟩; have HX1 := Lib.hid (HX.out.below hb); clear hb)
    go_ret
    exact ⟨ret_int (by rw [hE.out, if_neg hg]), HX1.out.bl⟩
set_option maxRecDepth 100000 in
set_option maxHeartbeats 1600000 in
theorem rhead_any (h : Pl.Right S R P) (g : Int) (w : World) :
    Calls Try.prog 20 #[shapeV S R P, .int .i64 g] w fun e w' => e = .returned (.int .i64 (inSegI S R P 4 g 0)) ∧ Below w.heap.size w w' := by
  have HX := Lib.hid (Boxed.start w (S : Int) (R : Int) (P : Int))
  have HC := Lib.hid (rend_any h g 4 (by decide) (by decide))
  go_enter Try.func20, Try.ntmps20
  go_wp2_with (go_at_call 39; refine (HC.out _).mono ?_; rintro e w1 ⟨rfl, hb⟩)
  go_ret
  exact ⟨rfl, (HX.out.below hb).bl⟩
set_option maxRecDepth 100000 in
set_option maxHeartbeats 1600000 in
theorem rfoot_any (h : Pl.Right S R P) (g : Int) (w : World) :
    Calls Try.prog 22 #[shapeV S R P, .int .i64 g] w fun e w' => e = .returned (.int .i64 (inSegI S R P 6 g 0)) ∧ Below w.heap.size w w' := by
  have HX := Lib.hid (Boxed.start w (S : Int) (R : Int) (P : Int))
  have HC := Lib.hid (rend_any h g 6 (by decide) (by decide))
  go_enter Try.func22, Try.ntmps22
  go_wp2_with (go_at_call 39; refine (HC.out _).mono ?_; rintro e w1 ⟨rfl, hb⟩)
  go_ret
  exact ⟨rfl, (HX.out.below hb).bl⟩
set_option maxRecDepth 100000 in
set_option maxHeartbeats 1600000 in
theorem rrecord_any (h : Pl.Right S R P) (i : Int) (w : World) :
    Calls Try.prog 18 #[shapeV S R P, .int .i64 i] w fun e w' => e = .returned (.int .i64 (recI S R P i)) ∧ Below w.heap.size w w' := by
  have HX := Lib.hid (Boxed.start w (S : Int) (R : Int) (P : Int))
  have hs := h.s0
  have hr := h.r0
  have hE := Lib.hid (show recI S R P i = if 1 ≤ i ∧ i ≤ 1099511627776 then blockI S R P 5 ((i - 1) / (R : Int) % (S : Int)) ((i - 1) % (R : Int)) else -1 from rfl)
  have hf : segN R i = if 1 ≤ i ∧ i ≤ 1099511627776 then (i - 1) / (R : Int) else -1 := rfl
  have HF := Lib.hid (rsegment_any h i)
  have HC := Lib.hid (fun x y => find_any h 5 (by decide) (by decide) x y)
  generalize segN R i = f at *
  by_cases hg : 1 ≤ i ∧ i ≤ 1099511627776
  · rw [if_pos hg] at hf
    have hn : (0 : Int) ≤ f := by rw [hf]; exact Int.ediv_nonneg (by omega) (by omega)
    have Hf := Lib.hid hf
    have Hm := Lib.hid (show Int.tmod f (S : Int) = f % (S : Int) from Int.tmod_eq_emod_of_nonneg hn)
    have Hm2 := Lib.hid (show Int.tmod (i - 1) (R : Int) = (i - 1) % (R : Int) from Int.tmod_eq_emod_of_nonneg (by omega))
    have hw : IntKind.i64.wrap (i - 1) = i - 1 := IntWalk.i64_in _ (by omega)
    have hS3 : ¬S = 0 := by omega
    have hR3 : ¬R = 0 := by omega
    have Hg := Lib.hid hg
    clear hf hg
    go_enter Try.func18, Try.ntmps18
    go_wp2_with (go_at_call 14; refine (HF.out _).mono ?_; rintro e w1 ⟨rfl, hb⟩; have HX1 := Lib.hid (HX.out.below hb); clear hb; obtain ⟨d0, d1, d2⟩ := HX1.out.cells)
    go_region_held3 (fun w' => w'.cell? ⟨w.heap.size, 0, none⟩ = some (.int .i64 (S : Int)) ∧ w'.cell? ⟨w.heap.size, 1, none⟩ = some (.int .i64 (R : Int)) ∧ w'.cell? ⟨w.heap.size, 2, none⟩ = some (.int .i64 (P : Int))) (first | exact ⟨d0, d1, d2⟩ | exact ⟨q0, q1, q2⟩)
      (first
        | (go_at_call 38; refine (HC.out _ _ _).mono ?_; rintro e w2 ⟨rfl, hb⟩; have HX2 := Lib.hid (show Boxed w w2 _ _ _ from by first | exact HX1.out.below hb | exact HX1.out.drew.below hb); clear hb d0 d1 d2; obtain ⟨q0, q1, q2⟩ := HX2.out.cells)
        | fail)
    all_goals go_wp2_with fail
    all_goals go_ret
    all_goals refine ⟨ret_int ?_, (by first | exact HX2.out.bl | exact HX2.out.drew.bl)⟩
    all_goals rw [hE.out, if_pos Hg.out, ← Hf.out]
    all_goals first | rfl | rw [Hm.out, Hm2.out]
  · rw [if_neg hg] at hf
    have hn : f < 0 := by omega
    clear hf
    go_enter Try.func18, Try.ntmps18
    go_wp2_with (go_at_call 14; refine (HF.out _).mono ?_; rintro e w1 ⟨rfl, hb⟩; have HX1 := Lib.hid (HX.out.below hb); clear hb)
    go_ret
    exact ⟨ret_int (by rw [hE.out, if_neg hg]), HX1.out.bl⟩
end
end Go.Proofs.Ytapejjlnicmfiaa
