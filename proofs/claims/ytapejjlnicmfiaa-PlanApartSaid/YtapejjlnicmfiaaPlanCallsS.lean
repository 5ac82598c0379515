/- plan's blocks of heads, records, feet, snapshots, pieces, by a right shape. -/
import Derived.Test.YtapejjlnicmfiaaPlanCallsR
namespace Go.Proofs.Ytapejjlnicmfiaa
open Go.RowKit
def inSegI (S R P k : Nat) (g at' : Int) : Int := if 0 ≤ g ∧ g ≤ 1099511627776 then blockI S R P k (g % (S : Int)) at' else -1
theorem fstN_none {R : Nat} {g : Int} : (fstN R g == -1) = !decide (0 ≤ g ∧ g ≤ 1099511627776) := by
  unfold fstN
  by_cases h : 0 ≤ g ∧ g ≤ 1099511627776
  · rw [if_pos h, decide_eq_true h]
    have : 0 ≤ g * (R : Int) := Int.mul_nonneg h.1 (by omega)
    simp; omega
  · rw [if_neg h, decide_eq_false h]; rfl
section
variable {S R P : Nat}
set_option maxRecDepth 100000 in
set_option maxHeartbeats 1600000 in
theorem inSegment_any (h : Pl.Right S R P) (k : Nat) (k0 : 1 ≤ k) (k1 : k ≤ 8) (g at' : Int) (w : World) :
    Calls Try.prog 37 #[shapeV S R P, .int .i64 (k : Int), .int .i64 g, .int .i64 at'] w fun e w' => e = .returned (.int .i64 (inSegI S R P k g at')) ∧ Below w.heap.size w w' := by
  have HX := Lib.hid (Boxed.start w (S : Int) (R : Int) (P : Int))
  have hs := h.s0
  have hE := Lib.hid (show inSegI S R P k g at' = if 0 ≤ g ∧ g ≤ 1099511627776 then blockI S R P k (g % (S : Int)) at' else -1 from rfl)
  have HN := Lib.hid (fstN_none (R := R) (g := g))
  have HF := Lib.hid (firstN_any h g)
  have HR := Lib.hid (rowsOf_any h k k0 k1)
  have HB := Lib.hid (block_any h k k0 k1)
  generalize fstN R g = f at *
  by_cases hg : 0 ≤ g ∧ g ≤ 1099511627776
  · have hn : (f == -1) = false := by rw [HN.out, decide_eq_true hg]; rfl
    have hm : Int.tmod g (S : Int) = g % (S : Int) := Int.tmod_eq_emod_of_nonneg hg.1
    have Hm := Lib.hid hm
    clear hm
    have hS0 : (S : Int) ≠ 0 := by omega
    have hS1 : ((S : Int) == 0) = false := by simpa using hS0
    have hS2 : (2 : Int) ≤ (S : Int) := by omega
    have hS3 : ¬S = 0 := by omega
    have hg0 : 0 ≤ g := hg.1
    have hg1 : g ≤ 1099511627776 := hg.2
    go_enter Try.func37, Try.ntmps37
    go_wp2_with (go_at_call 15; refine (HF.out _).mono ?_; rintro e w1 ⟨rfl, hb⟩; have HX1 := Lib.hid (HX.out.below hb); clear hb; obtain ⟨d0, d1, d2⟩ := HX1.out.cells)
    go_region_held3 (fun w' => w'.cell? ⟨w.heap.size, 0, none⟩ = some (.int .i64 (S : Int)) ∧ w'.cell? ⟨w.heap.size, 1, none⟩ = some (.int .i64 (R : Int)) ∧ w'.cell? ⟨w.heap.size, 2, none⟩ = some (.int .i64 (P : Int))) (first | exact ⟨d0, d1, d2⟩ | exact ⟨q0, q1, q2⟩)
      (first
        | (go_at_call 30; refine (HR.out _).mono ?_; rintro e w2 ⟨rfl, hb⟩; have HX2 := Lib.hid (show Boxed w w2 _ _ _ from by first | exact HX1.out.below hb | exact HX1.out.drew.below hb); clear hb d0 d1 d2; obtain ⟨q0, q1, q2⟩ := HX2.out.cells)
        | (go_at_call 42; refine (HB.out _ _ _).mono ?_; rintro e w3 ⟨rfl, hb⟩; have HX3 := Lib.hid (show Boxed w w3 _ _ _ from by first | exact HX2.out.below hb | exact HX2.out.drew.below hb); clear hb q0 q1 q2; obtain ⟨q0, q1, q2⟩ := HX3.out.cells)
        | fail)
    all_goals go_wp2_with fail
    all_goals go_ret
    all_goals refine ⟨ret_int ?_, (by first | exact HX3.out.bl | exact HX3.out.drew.bl)⟩
    all_goals rw [hE.out, if_pos hg]
    all_goals first | rfl | rw [Hm.out]
  · have hn : (f == -1) = true := by rw [HN.out, decide_eq_false hg]; rfl
    go_enter Try.func37, Try.ntmps37
    go_wp2_with (go_at_call 15; refine (HF.out _).mono ?_; rintro e w1 ⟨rfl, hb⟩; have HX1 := Lib.hid (HX.out.below hb); clear hb; obtain ⟨d0, d1, d2⟩ := HX1.out.cells)
    go_ret
    exact ⟨ret_int (by rw [hE.out, if_neg hg]), HX1.out.bl⟩
set_option maxRecDepth 100000 in
set_option maxHeartbeats 1600000 in
theorem inArea_any (h : Pl.Right S R P) (k : Nat) (k0 : 1 ≤ k) (k1 : k ≤ 8) (g at' : Int) (w : World) :
    Calls Try.prog 40 #[shapeV S R P, .int .i64 (k : Int), .int .i64 g, .int .i64 at'] w fun e w' => e = .returned (.int .i64 (blockI S R P k g at')) ∧ Below w.heap.size w w' := by
  have HX := Lib.hid (Boxed.start w (S : Int) (R : Int) (P : Int))
  have hR := right_of h
  have HR := Lib.hid (rowsOf_any h k k0 k1)
  have HB := Lib.hid (block_any h k k0 k1)
  go_enter Try.func40, Try.ntmps40
  go_wp2_with (first | (go_at_call 9; refine (right_any (S : Int) (R : Int) (P : Int) _).mono ?_; rw [hR]; rintro e w1 ⟨rfl, hb⟩; have HX1 := Lib.hid (HX.out.below hb); clear hb; obtain ⟨d0, d1, d2⟩ := HX1.out.cells) | (go_at_call 30; refine (HR.out _).mono ?_; rintro e w2 ⟨rfl, hb⟩; have HX2 := Lib.hid (HX1.out.below hb); clear hb d0 d1 d2; obtain ⟨q0, q1, q2⟩ := HX2.out.cells) | (go_at_call 42; refine (HB.out _ _ _).mono ?_; rintro e w3 ⟨rfl, hb⟩; have HX3 := Lib.hid (HX2.out.below hb); clear hb))
  go_ret
  exact ⟨rfl, HX3.out.bl⟩
end
set_option maxRecDepth 100000 in
set_option maxHeartbeats 800000 in
theorem head_any {S R P : Nat} (h : Pl.Right S R P) (g : Int) (w : World) :
    Calls Try.prog 19 #[shapeV S R P, .int .i64 g] w fun e w' => e = .returned (.int .i64 (inSegI S R P 4 g 0)) ∧ Below w.heap.size w w' := by
  have HX := Lib.hid (Boxed.start w (S : Int) (R : Int) (P : Int))
  have HC := Lib.hid (inSegment_any h 4 (by decide) (by decide) g 0)
  go_enter Try.func19, Try.ntmps19
  go_wp2_with (go_at_call 37; refine (HC.out _).mono ?_; rintro e w1 ⟨rfl, hb⟩)
  go_ret
  exact ⟨rfl, (HX.out.below hb).bl⟩
set_option maxRecDepth 100000 in
set_option maxHeartbeats 800000 in
theorem foot_any {S R P : Nat} (h : Pl.Right S R P) (g : Int) (w : World) :
    Calls Try.prog 21 #[shapeV S R P, .int .i64 g] w fun e w' => e = .returned (.int .i64 (inSegI S R P 6 g 0)) ∧ Below w.heap.size w w' := by
  have HX := Lib.hid (Boxed.start w (S : Int) (R : Int) (P : Int))
  have HC := Lib.hid (inSegment_any h 6 (by decide) (by decide) g 0)
  go_enter Try.func21, Try.ntmps21
  go_wp2_with (go_at_call 37; refine (HC.out _).mono ?_; rintro e w1 ⟨rfl, hb⟩)
  go_ret
  exact ⟨rfl, (HX.out.below hb).bl⟩
set_option maxRecDepth 100000 in
set_option maxHeartbeats 800000 in
theorem snap_any {S R P : Nat} (h : Pl.Right S R P) (g : Int) (w : World) :
    Calls Try.prog 23 #[shapeV S R P, .int .i64 g] w fun e w' => e = .returned (.int .i64 (blockI S R P 8 g 0)) ∧ Below w.heap.size w w' := by
  have HX := Lib.hid (Boxed.start w (S : Int) (R : Int) (P : Int))
  have HC := Lib.hid (inArea_any h 8 (by decide) (by decide) g 0)
  go_enter Try.func23, Try.ntmps23
  go_wp2_with (go_at_call 40; refine (HC.out _).mono ?_; rintro e w1 ⟨rfl, hb⟩)
  go_ret
  exact ⟨rfl, (HX.out.below hb).bl⟩
set_option maxRecDepth 100000 in
set_option maxHeartbeats 800000 in
theorem piece_any {S R P : Nat} (h : Pl.Right S R P) (g a : Int) (w : World) :
    Calls Try.prog 25 #[shapeV S R P, .int .i64 g, .int .i64 a] w fun e w' => e = .returned (.int .i64 (blockI S R P 7 g a)) ∧ Below w.heap.size w w' := by
  have HX := Lib.hid (Boxed.start w (S : Int) (R : Int) (P : Int))
  have HC := Lib.hid (inArea_any h 7 (by decide) (by decide) g a)
  go_enter Try.func25, Try.ntmps25
  go_wp2_with (go_at_call 40; refine (HC.out _).mono ?_; rintro e w1 ⟨rfl, hb⟩)
  go_ret
  exact ⟨rfl, (HX.out.below hb).bl⟩
/-- The block of an index's record. -/
def recI (S R P : Nat) (i : Int) : Int := if 1 ≤ i ∧ i ≤ 1099511627776 then blockI S R P 5 ((i - 1) / (R : Int) % (S : Int)) ((i - 1) % (R : Int)) else -1
theorem recI_eq {S R P : Nat} (h : Pl.Right S R P) (i : Int) : inSegI S R P 5 (segN R i) (IntKind.i64.wrap (i - fstN R (segN R i))) = recI S R P i := by
  have hr := h.r0
  unfold recI segN
  by_cases hi : 1 ≤ i ∧ i ≤ 1099511627776
  · rw [if_pos hi, if_pos hi]
    have hd := Int.mul_ediv_add_emod (i - 1) (R : Int)
    have hm := Int.emod_nonneg (i - 1) (show (R : Int) ≠ 0 by omega)
    have hl := Int.emod_lt_of_pos (i - 1) (show (0 : Int) < R by omega)
    have h0 : 0 ≤ (i - 1) / (R : Int) := Int.ediv_nonneg (by omega) (by omega)
    have h1 : (i - 1) / (R : Int) ≤ i - 1 := Int.ediv_le_self _ (by omega)
    have hg : 0 ≤ (i - 1) / (R : Int) ∧ (i - 1) / (R : Int) ≤ 1099511627776 := ⟨h0, by omega⟩
    unfold fstN inSegI
    rw [if_pos hg, if_pos hg]
    rw [Int.mul_comm] at hd
    have hr32 := h.r1
    rw [show i - ((i - 1) / (R : Int) * (R : Int) + 1) = (i - 1) % (R : Int) by omega, IntWalk.i64_in _ (by omega)]
  · rw [if_neg hi, if_neg hi]
    unfold inSegI
    rw [if_neg (by omega)]
set_option maxRecDepth 100000 in
set_option maxHeartbeats 1600000 in
theorem record_any {S R P : Nat} (h : Pl.Right S R P) (i : Int) (w : World) :
    Calls Try.prog 17 #[shapeV S R P, .int .i64 i] w fun e w' => e = .returned (.int .i64 (recI S R P i)) ∧ Below w.heap.size w w' := by
  have HX := Lib.hid (Boxed.start w (S : Int) (R : Int) (P : Int))
  have HE := Lib.hid (recI_eq h i)
  have HS := Lib.hid (segment_any h i)
  generalize segN R i = g at *
  have HF := Lib.hid (firstN_any h g)
  generalize fstN R g = f at *
  have HC := Lib.hid (fun at' => inSegment_any h 5 (by decide) (by decide) g at')
  go_enter Try.func17, Try.ntmps17
  go_wp2_with (go_at_call 13; refine (HS.out _).mono ?_; rintro e w1 ⟨rfl, hb⟩; have HX1 := Lib.hid (HX.out.below hb); clear hb; obtain ⟨d0, d1, d2⟩ := HX1.out.cells)
  go_region_held3 (fun w' => w'.cell? ⟨w.heap.size, 0, none⟩ = some (.int .i64 (S : Int)) ∧ w'.cell? ⟨w.heap.size, 1, none⟩ = some (.int .i64 (R : Int)) ∧ w'.cell? ⟨w.heap.size, 2, none⟩ = some (.int .i64 (P : Int))) (first | exact ⟨d0, d1, d2⟩ | exact ⟨q0, q1, q2⟩)
    (first
      | (go_at_call 15; refine (HF.out _).mono ?_; rintro e w2 ⟨rfl, hb⟩; have HX2 := Lib.hid (show Boxed w w2 _ _ _ from by first | exact HX1.out.below hb | exact HX1.out.drew.below hb); clear hb d0 d1 d2; obtain ⟨q0, q1, q2⟩ := HX2.out.cells)
      | (go_at_call 37; refine (HC.out _ _).mono ?_; rintro e w3 ⟨rfl, hb⟩; have HX3 := Lib.hid (show Boxed w w3 _ _ _ from by first | exact HX2.out.below hb | exact HX2.out.drew.below hb); clear hb q0 q1 q2; obtain ⟨q0, q1, q2⟩ := HX3.out.cells)
      | fail)
  all_goals go_wp2_with fail
  all_goals go_ret
  all_goals refine ⟨ret_int ?_, (by first | exact HX3.out.bl | exact HX3.out.drew.bl)⟩
  all_goals exact HE.out
end Go.Proofs.Ytapejjlnicmfiaa
