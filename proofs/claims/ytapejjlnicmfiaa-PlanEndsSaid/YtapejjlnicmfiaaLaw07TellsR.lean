/- PlanTells by a right shape. -/
import Derived.Test.YtapejjlnicmfiaaLaw07Box
namespace Go.Proofs.Ytapejjlnicmfiaa
open Go.RowKit
set_option maxRecDepth 100000 in
set_option maxHeartbeats 4000000 in
theorem tells_right {S R P : Nat} (h : Pl.Right S R P) (i g ar k bl : Int) (b0 : -9223372036854775808 ≤ bl) (b1 : bl ≤ 9223372036854775807) (w : World) :
    Calls Try.prog 3 #[shapeV S R P, .int .i64 i, .int .i64 g, .int .i64 ar, .int .i64 k, .int .i64 bl] w fun e w' => e = .returned (.bool true) ∧ Below w.heap.size w w' := by
  have HX := Lib.hid (Boxed.start w (S : Int) (R : Int) (P : Int))
  have hR := right_of h
  obtain ⟨d0, d1, d2⟩ := HX.out.cells
  have HpR : Hid (∀ w, Calls Try.prog 9 #[.agg #[.int .i64 (S : Int), .int .i64 (R : Int), .int .i64 (P : Int)]] w fun e w' => e = .returned (.bool true) ∧ Below w.heap.size w w') := Lib.hid (fun w => by have := (right_any (S : Int) (R : Int) (P : Int)) w; rw [hR] at this; exact this)
  have HrR : Hid (∀ w, Calls Try.prog 10 #[.agg #[.int .i64 (S : Int), .int .i64 (R : Int), .int .i64 (P : Int)]] w fun e w' => e = .returned (.bool true) ∧ Below w.heap.size w w') := Lib.hid (fun w => by have := (rright_any (S : Int) (R : Int) (P : Int)) w; rw [hR] at this; exact this)
  have Hp0 : Hid (∀ w, Calls Try.prog 11 #[.agg #[.int .i64 (S : Int), .int .i64 (R : Int), .int .i64 (P : Int)]] w fun e w' => e = .returned (.int .i64 ((Pl.all S R P : Int))) ∧ Below w.heap.size w w') := Lib.hid (blocks_any h)
  have Hr0 : Hid (∀ w, Calls Try.prog 12 #[.agg #[.int .i64 (S : Int), .int .i64 (R : Int), .int .i64 (P : Int)]] w fun e w' => e = .returned (.int .i64 ((Pl.all S R P : Int))) ∧ Below w.heap.size w w') := Lib.hid (rblocks_any h)
  have Hp1 : Hid (∀ w, Calls Try.prog 13 #[.agg #[.int .i64 (S : Int), .int .i64 (R : Int), .int .i64 (P : Int)], .int .i64 i] w fun e w' => e = .returned (.int .i64 (segN R i)) ∧ Below w.heap.size w w') := Lib.hid (segment_any h i)
  have Hr1 : Hid (∀ w, Calls Try.prog 14 #[.agg #[.int .i64 (S : Int), .int .i64 (R : Int), .int .i64 (P : Int)], .int .i64 i] w fun e w' => e = .returned (.int .i64 (segN R i)) ∧ Below w.heap.size w w') := Lib.hid (rsegment_any h i)
  have Hp2 : Hid (∀ w, Calls Try.prog 15 #[.agg #[.int .i64 (S : Int), .int .i64 (R : Int), .int .i64 (P : Int)], .int .i64 g] w fun e w' => e = .returned (.int .i64 (fstN R g)) ∧ Below w.heap.size w w') := Lib.hid (firstN_any h g)
  have Hr2 : Hid (∀ w, Calls Try.prog 16 #[.agg #[.int .i64 (S : Int), .int .i64 (R : Int), .int .i64 (P : Int)], .int .i64 g] w fun e w' => e = .returned (.int .i64 (fstN R g)) ∧ Below w.heap.size w w') := Lib.hid (rfirst_any h g)
  have Hp3 : Hid (∀ w, Calls Try.prog 17 #[.agg #[.int .i64 (S : Int), .int .i64 (R : Int), .int .i64 (P : Int)], .int .i64 i] w fun e w' => e = .returned (.int .i64 (recI S R P i)) ∧ Below w.heap.size w w') := Lib.hid (record_any h i)
  have Hr3 : Hid (∀ w, Calls Try.prog 18 #[.agg #[.int .i64 (S : Int), .int .i64 (R : Int), .int .i64 (P : Int)], .int .i64 i] w fun e w' => e = .returned (.int .i64 (recI S R P i)) ∧ Below w.heap.size w w') := Lib.hid (rrecord_any h i)
  have Hp4 : Hid (∀ w, Calls Try.prog 19 #[.agg #[.int .i64 (S : Int), .int .i64 (R : Int), .int .i64 (P : Int)], .int .i64 g] w fun e w' => e = .returned (.int .i64 (inSegI S R P 4 g 0)) ∧ Below w.heap.size w w') := Lib.hid (head_any h g)
  have Hr4 : Hid (∀ w, Calls Try.prog 20 #[.agg #[.int .i64 (S : Int), .int .i64 (R : Int), .int .i64 (P : Int)], .int .i64 g] w fun e w' => e = .returned (.int .i64 (inSegI S R P 4 g 0)) ∧ Below w.heap.size w w') := Lib.hid (rhead_any h g)
  have Hp5 : Hid (∀ w, Calls Try.prog 21 #[.agg #[.int .i64 (S : Int), .int .i64 (R : Int), .int .i64 (P : Int)], .int .i64 g] w fun e w' => e = .returned (.int .i64 (inSegI S R P 6 g 0)) ∧ Below w.heap.size w w') := Lib.hid (foot_any h g)
  have Hr5 : Hid (∀ w, Calls Try.prog 22 #[.agg #[.int .i64 (S : Int), .int .i64 (R : Int), .int .i64 (P : Int)], .int .i64 g] w fun e w' => e = .returned (.int .i64 (inSegI S R P 6 g 0)) ∧ Below w.heap.size w w') := Lib.hid (rfoot_any h g)
  have Hp6 : Hid (∀ w, Calls Try.prog 23 #[.agg #[.int .i64 (S : Int), .int .i64 (R : Int), .int .i64 (P : Int)], .int .i64 ar] w fun e w' => e = .returned (.int .i64 (blockI S R P 8 ar 0)) ∧ Below w.heap.size w w') := Lib.hid (snap_any h ar)
  have Hr6 : Hid (∀ w, Calls Try.prog 24 #[.agg #[.int .i64 (S : Int), .int .i64 (R : Int), .int .i64 (P : Int)], .int .i64 ar] w fun e w' => e = .returned (.int .i64 (blockI S R P 8 ar 0)) ∧ Below w.heap.size w w') := Lib.hid (rsnap_any h ar)
  have Hp7 : Hid (∀ w, Calls Try.prog 25 #[.agg #[.int .i64 (S : Int), .int .i64 (R : Int), .int .i64 (P : Int)], .int .i64 ar, .int .i64 k] w fun e w' => e = .returned (.int .i64 (blockI S R P 7 ar k)) ∧ Below w.heap.size w w') := Lib.hid (piece_any h ar k)
  have Hr7 : Hid (∀ w, Calls Try.prog 26 #[.agg #[.int .i64 (S : Int), .int .i64 (R : Int), .int .i64 (P : Int)], .int .i64 ar, .int .i64 k] w fun e w' => e = .returned (.int .i64 (blockI S R P 7 ar k)) ∧ Below w.heap.size w w') := Lib.hid (rpiece_any h ar k)
  have HpW : Hid (∀ w, Calls Try.prog 7 #[.agg #[.int .i64 (S : Int), .int .i64 (R : Int), .int .i64 (P : Int)], .int .i64 bl] w fun e w' => e = .returned (.tuple #[.int .i64 (whatI S R P bl).1, .int .i64 (whatI S R P bl).2.1, .int .i64 (whatI S R P bl).2.2]) ∧ Below w.heap.size w w') := Lib.hid (what_any h bl b0 b1)
  have HrW : Hid (∀ w, Calls Try.prog 8 #[.agg #[.int .i64 (S : Int), .int .i64 (R : Int), .int .i64 (P : Int)], .int .i64 bl] w fun e w' => e = .returned (.tuple #[.int .i64 (whatI S R P bl).1, .int .i64 (whatI S R P bl).2.1, .int .i64 (whatI S R P bl).2.2]) ∧ Below w.heap.size w w') := Lib.hid (rwhat_any h bl)
  have HA := Lib.hid awake_any
  generalize (Pl.all S R P : Int) = x0 at *
  generalize segN R i = x1 at *
  generalize fstN R g = x2 at *
  generalize recI S R P i = x3 at *
  generalize inSegI S R P 4 g 0 = x4 at *
  generalize inSegI S R P 6 g 0 = x5 at *
  generalize blockI S R P 8 ar 0 = x6 at *
  generalize blockI S R P 7 ar k = x7 at *
  generalize (whatI S R P bl).1 = x8 at *
  generalize (whatI S R P bl).2.1 = x9 at *
  generalize (whatI S R P bl).2.2 = x10 at *
  clear b0 b1 hR
  go_enter Try.func3, Try.ntmps3
  go_wp2_with (first | (go_at_call 7; (with_reducible refine (HpW.out _).mono ?_); rintro e w1 ⟨rfl, hb⟩; replace HX := Lib.hid (HX.out.below hb); clear hb d0 d1 d2; obtain ⟨d0, d1, d2⟩ := HX.out.cells) | (go_at_call 8; (with_reducible refine (HrW.out _).mono ?_); rintro e w1 ⟨rfl, hb⟩; replace HX := Lib.hid (HX.out.below hb); clear hb d0 d1 d2; obtain ⟨d0, d1, d2⟩ := HX.out.cells))
  simp only [List.append_eq, List.cons_append, List.nil_append]
  have K1 : ∀ w1, (fun w' => Boxed w w' (S : Int) (R : Int) (P : Int)) w1 → Calls Try.prog 9 [.agg #[.int .i64 (S : Int), .int .i64 (R : Int), .int .i64 (P : Int)]].toArray w1 fun e w' => e = .returned (.bool true) ∧ (fun w' => Boxed w w' (S : Int) (R : Int) (P : Int)) w' := box_keep HpR.out
  have K3 : ∀ w1, (fun w' => Boxed w w' (S : Int) (R : Int) (P : Int)) w1 → Calls Try.prog 10 [.agg #[.int .i64 (S : Int), .int .i64 (R : Int), .int .i64 (P : Int)]].toArray w1 fun e w' => e = .returned (.bool true) ∧ (fun w' => Boxed w w' (S : Int) (R : Int) (P : Int)) w' := box_keep HrR.out
  have K7 : ∀ w1, (fun w' => Boxed w w' (S : Int) (R : Int) (P : Int)) w1 → Calls Try.prog 11 [.agg #[.int .i64 (S : Int), .int .i64 (R : Int), .int .i64 (P : Int)]].toArray w1 fun e w' => e = .returned (.int .i64 x0) ∧ (fun w' => Boxed w w' (S : Int) (R : Int) (P : Int)) w' := box_keep Hp0.out
  have K9 : ∀ w1, (fun w' => Boxed w w' (S : Int) (R : Int) (P : Int)) w1 → Calls Try.prog 12 [.agg #[.int .i64 (S : Int), .int .i64 (R : Int), .int .i64 (P : Int)]].toArray w1 fun e w' => e = .returned (.int .i64 x0) ∧ (fun w' => Boxed w w' (S : Int) (R : Int) (P : Int)) w' := box_keep Hr0.out
  have K15 : ∀ w1, (fun w' => Boxed w w' (S : Int) (R : Int) (P : Int)) w1 → Calls Try.prog 13 [.agg #[.int .i64 (S : Int), .int .i64 (R : Int), .int .i64 (P : Int)], .int .i64 i].toArray w1 fun e w' => e = .returned (.int .i64 x1) ∧ (fun w' => Boxed w w' (S : Int) (R : Int) (P : Int)) w' := box_keep Hp1.out
  have K18 : ∀ w1, (fun w' => Boxed w w' (S : Int) (R : Int) (P : Int)) w1 → Calls Try.prog 14 [.agg #[.int .i64 (S : Int), .int .i64 (R : Int), .int .i64 (P : Int)], .int .i64 i].toArray w1 fun e w' => e = .returned (.int .i64 x1) ∧ (fun w' => Boxed w w' (S : Int) (R : Int) (P : Int)) w' := box_keep Hr1.out
  have K24 : ∀ w1, (fun w' => Boxed w w' (S : Int) (R : Int) (P : Int)) w1 → Calls Try.prog 15 [.agg #[.int .i64 (S : Int), .int .i64 (R : Int), .int .i64 (P : Int)], .int .i64 g].toArray w1 fun e w' => e = .returned (.int .i64 x2) ∧ (fun w' => Boxed w w' (S : Int) (R : Int) (P : Int)) w' := box_keep Hp2.out
  have K27 : ∀ w1, (fun w' => Boxed w w' (S : Int) (R : Int) (P : Int)) w1 → Calls Try.prog 16 [.agg #[.int .i64 (S : Int), .int .i64 (R : Int), .int .i64 (P : Int)], .int .i64 g].toArray w1 fun e w' => e = .returned (.int .i64 x2) ∧ (fun w' => Boxed w w' (S : Int) (R : Int) (P : Int)) w' := box_keep Hr2.out
  have K33 : ∀ w1, (fun w' => Boxed w w' (S : Int) (R : Int) (P : Int)) w1 → Calls Try.prog 17 [.agg #[.int .i64 (S : Int), .int .i64 (R : Int), .int .i64 (P : Int)], .int .i64 i].toArray w1 fun e w' => e = .returned (.int .i64 x3) ∧ (fun w' => Boxed w w' (S : Int) (R : Int) (P : Int)) w' := box_keep Hp3.out
  have K36 : ∀ w1, (fun w' => Boxed w w' (S : Int) (R : Int) (P : Int)) w1 → Calls Try.prog 18 [.agg #[.int .i64 (S : Int), .int .i64 (R : Int), .int .i64 (P : Int)], .int .i64 i].toArray w1 fun e w' => e = .returned (.int .i64 x3) ∧ (fun w' => Boxed w w' (S : Int) (R : Int) (P : Int)) w' := box_keep Hr3.out
  have K42 : ∀ w1, (fun w' => Boxed w w' (S : Int) (R : Int) (P : Int)) w1 → Calls Try.prog 19 [.agg #[.int .i64 (S : Int), .int .i64 (R : Int), .int .i64 (P : Int)], .int .i64 g].toArray w1 fun e w' => e = .returned (.int .i64 x4) ∧ (fun w' => Boxed w w' (S : Int) (R : Int) (P : Int)) w' := box_keep Hp4.out
  have K45 : ∀ w1, (fun w' => Boxed w w' (S : Int) (R : Int) (P : Int)) w1 → Calls Try.prog 20 [.agg #[.int .i64 (S : Int), .int .i64 (R : Int), .int .i64 (P : Int)], .int .i64 g].toArray w1 fun e w' => e = .returned (.int .i64 x4) ∧ (fun w' => Boxed w w' (S : Int) (R : Int) (P : Int)) w' := box_keep Hr4.out
  have K51 : ∀ w1, (fun w' => Boxed w w' (S : Int) (R : Int) (P : Int)) w1 → Calls Try.prog 21 [.agg #[.int .i64 (S : Int), .int .i64 (R : Int), .int .i64 (P : Int)], .int .i64 g].toArray w1 fun e w' => e = .returned (.int .i64 x5) ∧ (fun w' => Boxed w w' (S : Int) (R : Int) (P : Int)) w' := box_keep Hp5.out
  have K54 : ∀ w1, (fun w' => Boxed w w' (S : Int) (R : Int) (P : Int)) w1 → Calls Try.prog 22 [.agg #[.int .i64 (S : Int), .int .i64 (R : Int), .int .i64 (P : Int)], .int .i64 g].toArray w1 fun e w' => e = .returned (.int .i64 x5) ∧ (fun w' => Boxed w w' (S : Int) (R : Int) (P : Int)) w' := box_keep Hr5.out
  have K60 : ∀ w1, (fun w' => Boxed w w' (S : Int) (R : Int) (P : Int)) w1 → Calls Try.prog 23 [.agg #[.int .i64 (S : Int), .int .i64 (R : Int), .int .i64 (P : Int)], .int .i64 ar].toArray w1 fun e w' => e = .returned (.int .i64 x6) ∧ (fun w' => Boxed w w' (S : Int) (R : Int) (P : Int)) w' := box_keep Hp6.out
  have K63 : ∀ w1, (fun w' => Boxed w w' (S : Int) (R : Int) (P : Int)) w1 → Calls Try.prog 24 [.agg #[.int .i64 (S : Int), .int .i64 (R : Int), .int .i64 (P : Int)], .int .i64 ar].toArray w1 fun e w' => e = .returned (.int .i64 x6) ∧ (fun w' => Boxed w w' (S : Int) (R : Int) (P : Int)) w' := box_keep Hr6.out
  have K70 : ∀ w1, (fun w' => Boxed w w' (S : Int) (R : Int) (P : Int)) w1 → Calls Try.prog 25 [.agg #[.int .i64 (S : Int), .int .i64 (R : Int), .int .i64 (P : Int)], .int .i64 ar, .int .i64 k].toArray w1 fun e w' => e = .returned (.int .i64 x7) ∧ (fun w' => Boxed w w' (S : Int) (R : Int) (P : Int)) w' := box_keep Hp7.out
  have K74 : ∀ w1, (fun w' => Boxed w w' (S : Int) (R : Int) (P : Int)) w1 → Calls Try.prog 26 [.agg #[.int .i64 (S : Int), .int .i64 (R : Int), .int .i64 (P : Int)], .int .i64 ar, .int .i64 k].toArray w1 fun e w' => e = .returned (.int .i64 x7) ∧ (fun w' => Boxed w w' (S : Int) (R : Int) (P : Int)) w' := box_keep Hr7.out
  have K93 : ∀ w1, (fun w' => Boxed w w' (S : Int) (R : Int) (P : Int)) w1 → Calls Try.prog 27 [].toArray w1 fun e w' => e = .returned (.bool true) ∧ (fun w' => Boxed w w' (S : Int) (R : Int) (P : Int)) w' := box_keep HA.out
  obtain ⟨fin, hfin⟩ : ∃ fin : Array Value, fin = #[.agg #[.int .i64 (S : Int), .int .i64 (R : Int), .int .i64 (P : Int)], .int .i64 i, .int .i64 g, .int .i64 ar, .int .i64 k, .int .i64 bl, .pointer (some ⟨w.heap.size, 0, none⟩), undef, undef, undef, undef, undef, .bool true, .int .i64 x8, .int .i64 x9, .int .i64 x10, .int .i64 x8, .int .i64 x9, .int .i64 x10, .tuple #[.int .i64 x8, .int .i64 x9, .int .i64 x10], .agg #[.int .i64 (S : Int), .int .i64 (R : Int), .int .i64 (P : Int)], .int .i64 bl, .tuple #[.int .i64 x8, .int .i64 x9, .int .i64 x10], .int .i64 x8, .int .i64 x9, .int .i64 x10, .tuple #[.int .i64 x8, .int .i64 x9, .int .i64 x10], .agg #[.int .i64 (S : Int), .int .i64 (R : Int), .int .i64 (P : Int)], .int .i64 bl, .tuple #[.int .i64 x8, .int .i64 x9, .int .i64 x10], .int .i64 x8, .int .i64 x9, .int .i64 x10, .agg #[.int .i64 (S : Int), .int .i64 (R : Int), .int .i64 (P : Int)], .bool true, .agg #[.int .i64 (S : Int), .int .i64 (R : Int), .int .i64 (P : Int)], .bool true, .bool true, .bool true, .agg #[.int .i64 (S : Int), .int .i64 (R : Int), .int .i64 (P : Int)], .int .i64 x0, .agg #[.int .i64 (S : Int), .int .i64 (R : Int), .int .i64 (P : Int)], .int .i64 x0, .bool true, .bool true, .bool true, .agg #[.int .i64 (S : Int), .int .i64 (R : Int), .int .i64 (P : Int)], .int .i64 i, .int .i64 x1, .agg #[.int .i64 (S : Int), .int .i64 (R : Int), .int .i64 (P : Int)], .int .i64 i, .int .i64 x1, .bool true, .bool true, .bool true, .agg #[.int .i64 (S : Int), .int .i64 (R : Int), .int .i64 (P : Int)], .int .i64 g, .int .i64 x2, .agg #[.int .i64 (S : Int), .int .i64 (R : Int), .int .i64 (P : Int)], .int .i64 g, .int .i64 x2, .bool true, .bool true, .bool true, .agg #[.int .i64 (S : Int), .int .i64 (R : Int), .int .i64 (P : Int)], .int .i64 i, .int .i64 x3, .agg #[.int .i64 (S : Int), .int .i64 (R : Int), .int .i64 (P : Int)], .int .i64 i, .int .i64 x3, .bool true, .bool true, .bool true, .agg #[.int .i64 (S : Int), .int .i64 (R : Int), .int .i64 (P : Int)], .int .i64 g, .int .i64 x4, .agg #[.int .i64 (S : Int), .int .i64 (R : Int), .int .i64 (P : Int)], .int .i64 g, .int .i64 x4, .bool true, .bool true, .bool true, .agg #[.int .i64 (S : Int), .int .i64 (R : Int), .int .i64 (P : Int)], .int .i64 g, .int .i64 x5, .agg #[.int .i64 (S : Int), .int .i64 (R : Int), .int .i64 (P : Int)], .int .i64 g, .int .i64 x5, .bool true, .bool true, .bool true, .agg #[.int .i64 (S : Int), .int .i64 (R : Int), .int .i64 (P : Int)], .int .i64 ar, .int .i64 x6, .agg #[.int .i64 (S : Int), .int .i64 (R : Int), .int .i64 (P : Int)], .int .i64 ar, .int .i64 x6, .bool true, .bool true, .bool true, .agg #[.int .i64 (S : Int), .int .i64 (R : Int), .int .i64 (P : Int)], .int .i64 ar, .int .i64 k, .int .i64 x7, .agg #[.int .i64 (S : Int), .int .i64 (R : Int), .int .i64 (P : Int)], .int .i64 ar, .int .i64 k, .int .i64 x7, .bool true, .bool true, .bool true, .int .i64 x8, .int .i64 x8, .bool true, .bool true, .bool true, .int .i64 x9, .int .i64 x9, .bool true, .bool true, .bool true, .int .i64 x10, .int .i64 x10, .bool true, .bool true, .bool true, .bool true, .bool true] := ⟨_, rfl⟩
  refine Ssa.wp_region_list fin (fun w' => Boxed w w' (S : Int) (R : Int) (P : Int)) _ rfl (by kernel_rfl) (by kernel_rfl) (by kernel_rfl) (by rw [hfin]; kernel_rfl) HX.out.drew ?_ ?_
  · generalize hY : yielded _ fin = Y
    have y5 : Y 5 = some true := by rw [← hY, hfin]; kernel_rfl
    have y12 : Y 12 = some true := by rw [← hY, hfin]; kernel_rfl
    have y21 : Y 21 = some true := by rw [← hY, hfin]; kernel_rfl
    have y30 : Y 30 = some true := by rw [← hY, hfin]; kernel_rfl
    have y39 : Y 39 = some true := by rw [← hY, hfin]; kernel_rfl
    have y48 : Y 48 = some true := by rw [← hY, hfin]; kernel_rfl
    have y57 : Y 57 = some true := by rw [← hY, hfin]; kernel_rfl
    have y66 : Y 66 = some true := by rw [← hY, hfin]; kernel_rfl
    have y77 : Y 77 = some true := by rw [← hY, hfin]; kernel_rfl
    have y82 : Y 82 = some true := by rw [← hY, hfin]; kernel_rfl
    have y87 : Y 87 = some true := by rw [← hY, hfin]; kernel_rfl
    have y92 : Y 92 = some true := by rw [← hY, hfin]; kernel_rfl
    clear hY
    have e1 : fin[(1 : Nat)]? = some (.int .i64 i) := by rw [hfin]; kernel_rfl
    have e2 : fin[(2 : Nat)]? = some (.int .i64 g) := by rw [hfin]; kernel_rfl
    have e3 : fin[(3 : Nat)]? = some (.int .i64 ar) := by rw [hfin]; kernel_rfl
    have e4 : fin[(4 : Nat)]? = some (.int .i64 k) := by rw [hfin]; kernel_rfl
    have e6 : fin[(6 : Nat)]? = some (.pointer (some ⟨w.heap.size, 0, none⟩)) := by rw [hfin]; kernel_rfl
    have e12 : fin[(12 : Nat)]? = some (.bool true) := by rw [hfin]; kernel_rfl
    have e13 : fin[(13 : Nat)]? = some (.int .i64 x8) := by rw [hfin]; kernel_rfl
    have e14 : fin[(14 : Nat)]? = some (.int .i64 x9) := by rw [hfin]; kernel_rfl
    have e15 : fin[(15 : Nat)]? = some (.int .i64 x10) := by rw [hfin]; kernel_rfl
    have e16 : fin[(16 : Nat)]? = some (.int .i64 x8) := by rw [hfin]; kernel_rfl
    have e17 : fin[(17 : Nat)]? = some (.int .i64 x9) := by rw [hfin]; kernel_rfl
    have e18 : fin[(18 : Nat)]? = some (.int .i64 x10) := by rw [hfin]; kernel_rfl
    have e33 : fin[(33 : Nat)]? = some (.agg #[.int .i64 (S : Int), .int .i64 (R : Int), .int .i64 (P : Int)]) := by rw [hfin]; kernel_rfl
    have e34 : fin[(34 : Nat)]? = some (.bool true) := by rw [hfin]; kernel_rfl
    have e35 : fin[(35 : Nat)]? = some (.agg #[.int .i64 (S : Int), .int .i64 (R : Int), .int .i64 (P : Int)]) := by rw [hfin]; kernel_rfl
    have e36 : fin[(36 : Nat)]? = some (.bool true) := by rw [hfin]; kernel_rfl
    have e37 : fin[(37 : Nat)]? = some (.bool true) := by rw [hfin]; kernel_rfl
    have e38 : fin[(38 : Nat)]? = some (.bool true) := by rw [hfin]; kernel_rfl
    have e39 : fin[(39 : Nat)]? = some (.agg #[.int .i64 (S : Int), .int .i64 (R : Int), .int .i64 (P : Int)]) := by rw [hfin]; kernel_rfl
    have e40 : fin[(40 : Nat)]? = some (.int .i64 x0) := by rw [hfin]; kernel_rfl
    have e41 : fin[(41 : Nat)]? = some (.agg #[.int .i64 (S : Int), .int .i64 (R : Int), .int .i64 (P : Int)]) := by rw [hfin]; kernel_rfl
    have e42 : fin[(42 : Nat)]? = some (.int .i64 x0) := by rw [hfin]; kernel_rfl
    have e43 : fin[(43 : Nat)]? = some (.bool true) := by rw [hfin]; kernel_rfl
    have e44 : fin[(44 : Nat)]? = some (.bool true) := by rw [hfin]; kernel_rfl
    have e45 : fin[(45 : Nat)]? = some (.bool true) := by rw [hfin]; kernel_rfl
    have e46 : fin[(46 : Nat)]? = some (.agg #[.int .i64 (S : Int), .int .i64 (R : Int), .int .i64 (P : Int)]) := by rw [hfin]; kernel_rfl
    have e47 : fin[(47 : Nat)]? = some (.int .i64 i) := by rw [hfin]; kernel_rfl
    have e48 : fin[(48 : Nat)]? = some (.int .i64 x1) := by rw [hfin]; kernel_rfl
    have e49 : fin[(49 : Nat)]? = some (.agg #[.int .i64 (S : Int), .int .i64 (R : Int), .int .i64 (P : Int)]) := by rw [hfin]; kernel_rfl
    have e50 : fin[(50 : Nat)]? = some (.int .i64 i) := by rw [hfin]; kernel_rfl
    have e51 : fin[(51 : Nat)]? = some (.int .i64 x1) := by rw [hfin]; kernel_rfl
    have e52 : fin[(52 : Nat)]? = some (.bool true) := by rw [hfin]; kernel_rfl
    have e53 : fin[(53 : Nat)]? = some (.bool true) := by rw [hfin]; kernel_rfl
    have e54 : fin[(54 : Nat)]? = some (.bool true) := by rw [hfin]; kernel_rfl
    have e55 : fin[(55 : Nat)]? = some (.agg #[.int .i64 (S : Int), .int .i64 (R : Int), .int .i64 (P : Int)]) := by rw [hfin]; kernel_rfl
    have e56 : fin[(56 : Nat)]? = some (.int .i64 g) := by rw [hfin]; kernel_rfl
    have e57 : fin[(57 : Nat)]? = some (.int .i64 x2) := by rw [hfin]; kernel_rfl
    have e58 : fin[(58 : Nat)]? = some (.agg #[.int .i64 (S : Int), .int .i64 (R : Int), .int .i64 (P : Int)]) := by rw [hfin]; kernel_rfl
    have e59 : fin[(59 : Nat)]? = some (.int .i64 g) := by rw [hfin]; kernel_rfl
    have e60 : fin[(60 : Nat)]? = some (.int .i64 x2) := by rw [hfin]; kernel_rfl
    have e61 : fin[(61 : Nat)]? = some (.bool true) := by rw [hfin]; kernel_rfl
    have e62 : fin[(62 : Nat)]? = some (.bool true) := by rw [hfin]; kernel_rfl
    have e63 : fin[(63 : Nat)]? = some (.bool true) := by rw [hfin]; kernel_rfl
    have e64 : fin[(64 : Nat)]? = some (.agg #[.int .i64 (S : Int), .int .i64 (R : Int), .int .i64 (P : Int)]) := by rw [hfin]; kernel_rfl
    have e65 : fin[(65 : Nat)]? = some (.int .i64 i) := by rw [hfin]; kernel_rfl
    have e66 : fin[(66 : Nat)]? = some (.int .i64 x3) := by rw [hfin]; kernel_rfl
    have e67 : fin[(67 : Nat)]? = some (.agg #[.int .i64 (S : Int), .int .i64 (R : Int), .int .i64 (P : Int)]) := by rw [hfin]; kernel_rfl
    have e68 : fin[(68 : Nat)]? = some (.int .i64 i) := by rw [hfin]; kernel_rfl
    have e69 : fin[(69 : Nat)]? = some (.int .i64 x3) := by rw [hfin]; kernel_rfl
    have e70 : fin[(70 : Nat)]? = some (.bool true) := by rw [hfin]; kernel_rfl
    have e71 : fin[(71 : Nat)]? = some (.bool true) := by rw [hfin]; kernel_rfl
    have e72 : fin[(72 : Nat)]? = some (.bool true) := by rw [hfin]; kernel_rfl
    have e73 : fin[(73 : Nat)]? = some (.agg #[.int .i64 (S : Int), .int .i64 (R : Int), .int .i64 (P : Int)]) := by rw [hfin]; kernel_rfl
    have e74 : fin[(74 : Nat)]? = some (.int .i64 g) := by rw [hfin]; kernel_rfl
    have e75 : fin[(75 : Nat)]? = some (.int .i64 x4) := by rw [hfin]; kernel_rfl
    have e76 : fin[(76 : Nat)]? = some (.agg #[.int .i64 (S : Int), .int .i64 (R : Int), .int .i64 (P : Int)]) := by rw [hfin]; kernel_rfl
    have e77 : fin[(77 : Nat)]? = some (.int .i64 g) := by rw [hfin]; kernel_rfl
    have e78 : fin[(78 : Nat)]? = some (.int .i64 x4) := by rw [hfin]; kernel_rfl
    have e79 : fin[(79 : Nat)]? = some (.bool true) := by rw [hfin]; kernel_rfl
    have e80 : fin[(80 : Nat)]? = some (.bool true) := by rw [hfin]; kernel_rfl
    have e81 : fin[(81 : Nat)]? = some (.bool true) := by rw [hfin]; kernel_rfl
    have e82 : fin[(82 : Nat)]? = some (.agg #[.int .i64 (S : Int), .int .i64 (R : Int), .int .i64 (P : Int)]) := by rw [hfin]; kernel_rfl
    have e83 : fin[(83 : Nat)]? = some (.int .i64 g) := by rw [hfin]; kernel_rfl
    have e84 : fin[(84 : Nat)]? = some (.int .i64 x5) := by rw [hfin]; kernel_rfl
    have e85 : fin[(85 : Nat)]? = some (.agg #[.int .i64 (S : Int), .int .i64 (R : Int), .int .i64 (P : Int)]) := by rw [hfin]; kernel_rfl
    have e86 : fin[(86 : Nat)]? = some (.int .i64 g) := by rw [hfin]; kernel_rfl
    have e87 : fin[(87 : Nat)]? = some (.int .i64 x5) := by rw [hfin]; kernel_rfl
    have e88 : fin[(88 : Nat)]? = some (.bool true) := by rw [hfin]; kernel_rfl
    have e89 : fin[(89 : Nat)]? = some (.bool true) := by rw [hfin]; kernel_rfl
    have e90 : fin[(90 : Nat)]? = some (.bool true) := by rw [hfin]; kernel_rfl
    have e91 : fin[(91 : Nat)]? = some (.agg #[.int .i64 (S : Int), .int .i64 (R : Int), .int .i64 (P : Int)]) := by rw [hfin]; kernel_rfl
    have e92 : fin[(92 : Nat)]? = some (.int .i64 ar) := by rw [hfin]; kernel_rfl
    have e93 : fin[(93 : Nat)]? = some (.int .i64 x6) := by rw [hfin]; kernel_rfl
    have e94 : fin[(94 : Nat)]? = some (.agg #[.int .i64 (S : Int), .int .i64 (R : Int), .int .i64 (P : Int)]) := by rw [hfin]; kernel_rfl
    have e95 : fin[(95 : Nat)]? = some (.int .i64 ar) := by rw [hfin]; kernel_rfl
    have e96 : fin[(96 : Nat)]? = some (.int .i64 x6) := by rw [hfin]; kernel_rfl
    have e97 : fin[(97 : Nat)]? = some (.bool true) := by rw [hfin]; kernel_rfl
    have e98 : fin[(98 : Nat)]? = some (.bool true) := by rw [hfin]; kernel_rfl
    have e99 : fin[(99 : Nat)]? = some (.bool true) := by rw [hfin]; kernel_rfl
    have e100 : fin[(100 : Nat)]? = some (.agg #[.int .i64 (S : Int), .int .i64 (R : Int), .int .i64 (P : Int)]) := by rw [hfin]; kernel_rfl
    have e101 : fin[(101 : Nat)]? = some (.int .i64 ar) := by rw [hfin]; kernel_rfl
    have e102 : fin[(102 : Nat)]? = some (.int .i64 k) := by rw [hfin]; kernel_rfl
    have e103 : fin[(103 : Nat)]? = some (.int .i64 x7) := by rw [hfin]; kernel_rfl
    have e104 : fin[(104 : Nat)]? = some (.agg #[.int .i64 (S : Int), .int .i64 (R : Int), .int .i64 (P : Int)]) := by rw [hfin]; kernel_rfl
    have e105 : fin[(105 : Nat)]? = some (.int .i64 ar) := by rw [hfin]; kernel_rfl
    have e106 : fin[(106 : Nat)]? = some (.int .i64 k) := by rw [hfin]; kernel_rfl
    have e107 : fin[(107 : Nat)]? = some (.int .i64 x7) := by rw [hfin]; kernel_rfl
    have e108 : fin[(108 : Nat)]? = some (.bool true) := by rw [hfin]; kernel_rfl
    have e109 : fin[(109 : Nat)]? = some (.bool true) := by rw [hfin]; kernel_rfl
    have e110 : fin[(110 : Nat)]? = some (.bool true) := by rw [hfin]; kernel_rfl
    have e111 : fin[(111 : Nat)]? = some (.int .i64 x8) := by rw [hfin]; kernel_rfl
    have e112 : fin[(112 : Nat)]? = some (.int .i64 x8) := by rw [hfin]; kernel_rfl
    have e113 : fin[(113 : Nat)]? = some (.bool true) := by rw [hfin]; kernel_rfl
    have e114 : fin[(114 : Nat)]? = some (.bool true) := by rw [hfin]; kernel_rfl
    have e115 : fin[(115 : Nat)]? = some (.bool true) := by rw [hfin]; kernel_rfl
    have e116 : fin[(116 : Nat)]? = some (.int .i64 x9) := by rw [hfin]; kernel_rfl
    have e117 : fin[(117 : Nat)]? = some (.int .i64 x9) := by rw [hfin]; kernel_rfl
    have e118 : fin[(118 : Nat)]? = some (.bool true) := by rw [hfin]; kernel_rfl
    have e119 : fin[(119 : Nat)]? = some (.bool true) := by rw [hfin]; kernel_rfl
    have e120 : fin[(120 : Nat)]? = some (.bool true) := by rw [hfin]; kernel_rfl
    have e121 : fin[(121 : Nat)]? = some (.int .i64 x10) := by rw [hfin]; kernel_rfl
    have e122 : fin[(122 : Nat)]? = some (.int .i64 x10) := by rw [hfin]; kernel_rfl
    have e123 : fin[(123 : Nat)]? = some (.bool true) := by rw [hfin]; kernel_rfl
    have e124 : fin[(124 : Nat)]? = some (.bool true) := by rw [hfin]; kernel_rfl
    have e125 : fin[(125 : Nat)]? = some (.bool true) := by rw [hfin]; kernel_rfl
    have e126 : fin[(126 : Nat)]? = some (.bool true) := by rw [hfin]; kernel_rfl
    have e127 : fin[(127 : Nat)]? = some (.bool true) := by rw [hfin]; kernel_rfl
    clear hfin
    refine Ssa.AllFin.cons ?_ ?_
    · exact Ssa.fin_val rfl (.agg #[.int .i64 (S : Int), .int .i64 (R : Int), .int .i64 (P : Int)]) (fun _ hS => Ssa.exec_load rfl (Ssa.ev e6) (box_load hS)) (Ssa.dst_is rfl e33)
    refine Ssa.AllFin.cons ?_ ?_
    · refine Ssa.fin_call rfl 9 [.agg #[.int .i64 (S : Int), .int .i64 (R : Int), .int .i64 (P : Int)]].toArray (.bool true) ?_ ?_ ?_
      · exact fun _ _ => Ssa.exec_call rfl rfl (Ssa.evs_cons (Ssa.ev e33) Ssa.evs_nil) Try.func9 (by kernel_rfl) rfl
      · exact K1
      · exact Ssa.dst_is rfl e34
    refine Ssa.AllFin.cons ?_ ?_
    · exact Ssa.fin_val rfl (.agg #[.int .i64 (S : Int), .int .i64 (R : Int), .int .i64 (P : Int)]) (fun _ hS => Ssa.exec_load rfl (Ssa.ev e6) (box_load hS)) (Ssa.dst_is rfl e35)
    refine Ssa.AllFin.cons ?_ ?_
    · refine Ssa.fin_call rfl 10 [.agg #[.int .i64 (S : Int), .int .i64 (R : Int), .int .i64 (P : Int)]].toArray (.bool true) ?_ ?_ ?_
      · exact fun _ _ => Ssa.exec_call rfl rfl (Ssa.evs_cons (Ssa.ev e35) Ssa.evs_nil) Try.func10 (by kernel_rfl) rfl
      · exact K3
      · exact Ssa.dst_is rfl e36
    refine Ssa.AllFin.cons ?_ ?_
    · exact Ssa.fin_val rfl (.bool true) (fun _ hS => Ssa.exec_eqb rfl (Ssa.ev e34) (Ssa.ev e36) (eqb_run _ _)) (Ssa.dst_is rfl e37)
    refine Ssa.AllFin.cons ?_ ?_
    · exact Ssa.fin_val rfl (.bool true) (fun _ hS => Ssa.exec_move (.inl rfl) (Ssa.ev e37)) (Ssa.dst_is rfl e38)
    refine Ssa.AllFin.cons ?_ ?_
    · exact Ssa.fin_val (Ssa.want rfl y5) (.agg #[.int .i64 (S : Int), .int .i64 (R : Int), .int .i64 (P : Int)]) (fun _ hS => Ssa.exec_load rfl (Ssa.ev e6) (box_load hS)) (Ssa.dst_is rfl e39)
    refine Ssa.AllFin.cons ?_ ?_
    · refine Ssa.fin_call (Ssa.want rfl y5) 11 [.agg #[.int .i64 (S : Int), .int .i64 (R : Int), .int .i64 (P : Int)]].toArray (.int .i64 x0) ?_ ?_ ?_
      · exact fun _ _ => Ssa.exec_call rfl rfl (Ssa.evs_cons (Ssa.ev e39) Ssa.evs_nil) Try.func11 (by kernel_rfl) rfl
      · exact K7
      · exact Ssa.dst_is rfl e40
    refine Ssa.AllFin.cons ?_ ?_
    · exact Ssa.fin_val (Ssa.want rfl y5) (.agg #[.int .i64 (S : Int), .int .i64 (R : Int), .int .i64 (P : Int)]) (fun _ hS => Ssa.exec_load rfl (Ssa.ev e6) (box_load hS)) (Ssa.dst_is rfl e41)
    refine Ssa.AllFin.cons ?_ ?_
    · refine Ssa.fin_call (Ssa.want rfl y5) 12 [.agg #[.int .i64 (S : Int), .int .i64 (R : Int), .int .i64 (P : Int)]].toArray (.int .i64 x0) ?_ ?_ ?_
      · exact fun _ _ => Ssa.exec_call rfl rfl (Ssa.evs_cons (Ssa.ev e41) Ssa.evs_nil) Try.func12 (by kernel_rfl) rfl
      · exact K9
      · exact Ssa.dst_is rfl e42
    refine Ssa.AllFin.cons ?_ ?_
    · exact Ssa.fin_val (Ssa.want rfl y5) (.bool true) (fun _ hS => Ssa.exec_eql rfl (Ssa.ev e40) (Ssa.ev e42)) (Ssa.dst_is rfl e43)
    refine Ssa.AllFin.cons ?_ ?_
    · exact Ssa.fin_val rfl (.bool true) (fun _ hS => Ssa.exec_pick rfl (Ssa.ev e38) (Ssa.pick_true (Ssa.ev e43))) (Ssa.dst_is rfl e44)
    refine Ssa.AllFin.cons ?_ ?_
    · exact Ssa.fin_val rfl (.bool true) (fun _ hS => Ssa.exec_move (.inl rfl) (Ssa.ev e44)) (Ssa.dst_is rfl e45)
    refine Ssa.AllFin.cons ?_ ?_
    · exact Ssa.fin_val (Ssa.want rfl y12) (.agg #[.int .i64 (S : Int), .int .i64 (R : Int), .int .i64 (P : Int)]) (fun _ hS => Ssa.exec_load rfl (Ssa.ev e6) (box_load hS)) (Ssa.dst_is rfl e46)
    refine Ssa.AllFin.cons ?_ ?_
    · exact Ssa.fin_val (Ssa.want rfl y12) (.int .i64 i) (fun _ hS => Ssa.exec_move (.inl rfl) (Ssa.ev e1)) (Ssa.dst_is rfl e47)
    refine Ssa.AllFin.cons ?_ ?_
    · refine Ssa.fin_call (Ssa.want rfl y12) 13 [.agg #[.int .i64 (S : Int), .int .i64 (R : Int), .int .i64 (P : Int)], .int .i64 i].toArray (.int .i64 x1) ?_ ?_ ?_
      · exact fun _ _ => Ssa.exec_call rfl rfl (Ssa.evs_cons (Ssa.ev e46) (Ssa.evs_cons (Ssa.ev e47) Ssa.evs_nil)) Try.func13 (by kernel_rfl) rfl
      · exact K15
      · exact Ssa.dst_is rfl e48
    refine Ssa.AllFin.cons ?_ ?_
    · exact Ssa.fin_val (Ssa.want rfl y12) (.agg #[.int .i64 (S : Int), .int .i64 (R : Int), .int .i64 (P : Int)]) (fun _ hS => Ssa.exec_load rfl (Ssa.ev e6) (box_load hS)) (Ssa.dst_is rfl e49)
    refine Ssa.AllFin.cons ?_ ?_
    · exact Ssa.fin_val (Ssa.want rfl y12) (.int .i64 i) (fun _ hS => Ssa.exec_move (.inl rfl) (Ssa.ev e1)) (Ssa.dst_is rfl e50)
    refine Ssa.AllFin.cons ?_ ?_
    · refine Ssa.fin_call (Ssa.want rfl y12) 14 [.agg #[.int .i64 (S : Int), .int .i64 (R : Int), .int .i64 (P : Int)], .int .i64 i].toArray (.int .i64 x1) ?_ ?_ ?_
      · exact fun _ _ => Ssa.exec_call rfl rfl (Ssa.evs_cons (Ssa.ev e49) (Ssa.evs_cons (Ssa.ev e50) Ssa.evs_nil)) Try.func14 (by kernel_rfl) rfl
      · exact K18
      · exact Ssa.dst_is rfl e51
    refine Ssa.AllFin.cons ?_ ?_
    · exact Ssa.fin_val (Ssa.want rfl y12) (.bool true) (fun _ hS => Ssa.exec_eql rfl (Ssa.ev e48) (Ssa.ev e51)) (Ssa.dst_is rfl e52)
    refine Ssa.AllFin.cons ?_ ?_
    · exact Ssa.fin_val rfl (.bool true) (fun _ hS => Ssa.exec_pick rfl (Ssa.ev e45) (Ssa.pick_true (Ssa.ev e52))) (Ssa.dst_is rfl e53)
    refine Ssa.AllFin.cons ?_ ?_
    · exact Ssa.fin_val rfl (.bool true) (fun _ hS => Ssa.exec_move (.inl rfl) (Ssa.ev e53)) (Ssa.dst_is rfl e54)
    refine Ssa.AllFin.cons ?_ ?_
    · exact Ssa.fin_val (Ssa.want rfl y21) (.agg #[.int .i64 (S : Int), .int .i64 (R : Int), .int .i64 (P : Int)]) (fun _ hS => Ssa.exec_load rfl (Ssa.ev e6) (box_load hS)) (Ssa.dst_is rfl e55)
    refine Ssa.AllFin.cons ?_ ?_
    · exact Ssa.fin_val (Ssa.want rfl y21) (.int .i64 g) (fun _ hS => Ssa.exec_move (.inl rfl) (Ssa.ev e2)) (Ssa.dst_is rfl e56)
    refine Ssa.AllFin.cons ?_ ?_
    · refine Ssa.fin_call (Ssa.want rfl y21) 15 [.agg #[.int .i64 (S : Int), .int .i64 (R : Int), .int .i64 (P : Int)], .int .i64 g].toArray (.int .i64 x2) ?_ ?_ ?_
      · exact fun _ _ => Ssa.exec_call rfl rfl (Ssa.evs_cons (Ssa.ev e55) (Ssa.evs_cons (Ssa.ev e56) Ssa.evs_nil)) Try.func15 (by kernel_rfl) rfl
      · exact K24
      · exact Ssa.dst_is rfl e57
    refine Ssa.AllFin.cons ?_ ?_
    · exact Ssa.fin_val (Ssa.want rfl y21) (.agg #[.int .i64 (S : Int), .int .i64 (R : Int), .int .i64 (P : Int)]) (fun _ hS => Ssa.exec_load rfl (Ssa.ev e6) (box_load hS)) (Ssa.dst_is rfl e58)
    refine Ssa.AllFin.cons ?_ ?_
    · exact Ssa.fin_val (Ssa.want rfl y21) (.int .i64 g) (fun _ hS => Ssa.exec_move (.inl rfl) (Ssa.ev e2)) (Ssa.dst_is rfl e59)
    refine Ssa.AllFin.cons ?_ ?_
    · refine Ssa.fin_call (Ssa.want rfl y21) 16 [.agg #[.int .i64 (S : Int), .int .i64 (R : Int), .int .i64 (P : Int)], .int .i64 g].toArray (.int .i64 x2) ?_ ?_ ?_
      · exact fun _ _ => Ssa.exec_call rfl rfl (Ssa.evs_cons (Ssa.ev e58) (Ssa.evs_cons (Ssa.ev e59) Ssa.evs_nil)) Try.func16 (by kernel_rfl) rfl
      · exact K27
      · exact Ssa.dst_is rfl e60
    refine Ssa.AllFin.cons ?_ ?_
    · exact Ssa.fin_val (Ssa.want rfl y21) (.bool true) (fun _ hS => Ssa.exec_eql rfl (Ssa.ev e57) (Ssa.ev e60)) (Ssa.dst_is rfl e61)
    refine Ssa.AllFin.cons ?_ ?_
    · exact Ssa.fin_val rfl (.bool true) (fun _ hS => Ssa.exec_pick rfl (Ssa.ev e54) (Ssa.pick_true (Ssa.ev e61))) (Ssa.dst_is rfl e62)
    refine Ssa.AllFin.cons ?_ ?_
    · exact Ssa.fin_val rfl (.bool true) (fun _ hS => Ssa.exec_move (.inl rfl) (Ssa.ev e62)) (Ssa.dst_is rfl e63)
    refine Ssa.AllFin.cons ?_ ?_
    · exact Ssa.fin_val (Ssa.want rfl y30) (.agg #[.int .i64 (S : Int), .int .i64 (R : Int), .int .i64 (P : Int)]) (fun _ hS => Ssa.exec_load rfl (Ssa.ev e6) (box_load hS)) (Ssa.dst_is rfl e64)
    refine Ssa.AllFin.cons ?_ ?_
    · exact Ssa.fin_val (Ssa.want rfl y30) (.int .i64 i) (fun _ hS => Ssa.exec_move (.inl rfl) (Ssa.ev e1)) (Ssa.dst_is rfl e65)
    refine Ssa.AllFin.cons ?_ ?_
    · refine Ssa.fin_call (Ssa.want rfl y30) 17 [.agg #[.int .i64 (S : Int), .int .i64 (R : Int), .int .i64 (P : Int)], .int .i64 i].toArray (.int .i64 x3) ?_ ?_ ?_
      · exact fun _ _ => Ssa.exec_call rfl rfl (Ssa.evs_cons (Ssa.ev e64) (Ssa.evs_cons (Ssa.ev e65) Ssa.evs_nil)) Try.func17 (by kernel_rfl) rfl
      · exact K33
      · exact Ssa.dst_is rfl e66
    refine Ssa.AllFin.cons ?_ ?_
    · exact Ssa.fin_val (Ssa.want rfl y30) (.agg #[.int .i64 (S : Int), .int .i64 (R : Int), .int .i64 (P : Int)]) (fun _ hS => Ssa.exec_load rfl (Ssa.ev e6) (box_load hS)) (Ssa.dst_is rfl e67)
    refine Ssa.AllFin.cons ?_ ?_
    · exact Ssa.fin_val (Ssa.want rfl y30) (.int .i64 i) (fun _ hS => Ssa.exec_move (.inl rfl) (Ssa.ev e1)) (Ssa.dst_is rfl e68)
    refine Ssa.AllFin.cons ?_ ?_
    · refine Ssa.fin_call (Ssa.want rfl y30) 18 [.agg #[.int .i64 (S : Int), .int .i64 (R : Int), .int .i64 (P : Int)], .int .i64 i].toArray (.int .i64 x3) ?_ ?_ ?_
      · exact fun _ _ => Ssa.exec_call rfl rfl (Ssa.evs_cons (Ssa.ev e67) (Ssa.evs_cons (Ssa.ev e68) Ssa.evs_nil)) Try.func18 (by kernel_rfl) rfl
      · exact K36
      · exact Ssa.dst_is rfl e69
    refine Ssa.AllFin.cons ?_ ?_
    · exact Ssa.fin_val (Ssa.want rfl y30) (.bool true) (fun _ hS => Ssa.exec_eql rfl (Ssa.ev e66) (Ssa.ev e69)) (Ssa.dst_is rfl e70)
    refine Ssa.AllFin.cons ?_ ?_
    · exact Ssa.fin_val rfl (.bool true) (fun _ hS => Ssa.exec_pick rfl (Ssa.ev e63) (Ssa.pick_true (Ssa.ev e70))) (Ssa.dst_is rfl e71)
    refine Ssa.AllFin.cons ?_ ?_
    · exact Ssa.fin_val rfl (.bool true) (fun _ hS => Ssa.exec_move (.inl rfl) (Ssa.ev e71)) (Ssa.dst_is rfl e72)
    refine Ssa.AllFin.cons ?_ ?_
    · exact Ssa.fin_val (Ssa.want rfl y39) (.agg #[.int .i64 (S : Int), .int .i64 (R : Int), .int .i64 (P : Int)]) (fun _ hS => Ssa.exec_load rfl (Ssa.ev e6) (box_load hS)) (Ssa.dst_is rfl e73)
    refine Ssa.AllFin.cons ?_ ?_
    · exact Ssa.fin_val (Ssa.want rfl y39) (.int .i64 g) (fun _ hS => Ssa.exec_move (.inl rfl) (Ssa.ev e2)) (Ssa.dst_is rfl e74)
    refine Ssa.AllFin.cons ?_ ?_
    · refine Ssa.fin_call (Ssa.want rfl y39) 19 [.agg #[.int .i64 (S : Int), .int .i64 (R : Int), .int .i64 (P : Int)], .int .i64 g].toArray (.int .i64 x4) ?_ ?_ ?_
      · exact fun _ _ => Ssa.exec_call rfl rfl (Ssa.evs_cons (Ssa.ev e73) (Ssa.evs_cons (Ssa.ev e74) Ssa.evs_nil)) Try.func19 (by kernel_rfl) rfl
      · exact K42
      · exact Ssa.dst_is rfl e75
    refine Ssa.AllFin.cons ?_ ?_
    · exact Ssa.fin_val (Ssa.want rfl y39) (.agg #[.int .i64 (S : Int), .int .i64 (R : Int), .int .i64 (P : Int)]) (fun _ hS => Ssa.exec_load rfl (Ssa.ev e6) (box_load hS)) (Ssa.dst_is rfl e76)
    refine Ssa.AllFin.cons ?_ ?_
    · exact Ssa.fin_val (Ssa.want rfl y39) (.int .i64 g) (fun _ hS => Ssa.exec_move (.inl rfl) (Ssa.ev e2)) (Ssa.dst_is rfl e77)
    refine Ssa.AllFin.cons ?_ ?_
    · refine Ssa.fin_call (Ssa.want rfl y39) 20 [.agg #[.int .i64 (S : Int), .int .i64 (R : Int), .int .i64 (P : Int)], .int .i64 g].toArray (.int .i64 x4) ?_ ?_ ?_
      · exact fun _ _ => Ssa.exec_call rfl rfl (Ssa.evs_cons (Ssa.ev e76) (Ssa.evs_cons (Ssa.ev e77) Ssa.evs_nil)) Try.func20 (by kernel_rfl) rfl
      · exact K45
      · exact Ssa.dst_is rfl e78
    refine Ssa.AllFin.cons ?_ ?_
    · exact Ssa.fin_val (Ssa.want rfl y39) (.bool true) (fun _ hS => Ssa.exec_eql rfl (Ssa.ev e75) (Ssa.ev e78)) (Ssa.dst_is rfl e79)
    refine Ssa.AllFin.cons ?_ ?_
    · exact Ssa.fin_val rfl (.bool true) (fun _ hS => Ssa.exec_pick rfl (Ssa.ev e72) (Ssa.pick_true (Ssa.ev e79))) (Ssa.dst_is rfl e80)
    refine Ssa.AllFin.cons ?_ ?_
    · exact Ssa.fin_val rfl (.bool true) (fun _ hS => Ssa.exec_move (.inl rfl) (Ssa.ev e80)) (Ssa.dst_is rfl e81)
    refine Ssa.AllFin.cons ?_ ?_
    · exact Ssa.fin_val (Ssa.want rfl y48) (.agg #[.int .i64 (S : Int), .int .i64 (R : Int), .int .i64 (P : Int)]) (fun _ hS => Ssa.exec_load rfl (Ssa.ev e6) (box_load hS)) (Ssa.dst_is rfl e82)
    refine Ssa.AllFin.cons ?_ ?_
    · exact Ssa.fin_val (Ssa.want rfl y48) (.int .i64 g) (fun _ hS => Ssa.exec_move (.inl rfl) (Ssa.ev e2)) (Ssa.dst_is rfl e83)
    refine Ssa.AllFin.cons ?_ ?_
    · refine Ssa.fin_call (Ssa.want rfl y48) 21 [.agg #[.int .i64 (S : Int), .int .i64 (R : Int), .int .i64 (P : Int)], .int .i64 g].toArray (.int .i64 x5) ?_ ?_ ?_
      · exact fun _ _ => Ssa.exec_call rfl rfl (Ssa.evs_cons (Ssa.ev e82) (Ssa.evs_cons (Ssa.ev e83) Ssa.evs_nil)) Try.func21 (by kernel_rfl) rfl
      · exact K51
      · exact Ssa.dst_is rfl e84
    refine Ssa.AllFin.cons ?_ ?_
    · exact Ssa.fin_val (Ssa.want rfl y48) (.agg #[.int .i64 (S : Int), .int .i64 (R : Int), .int .i64 (P : Int)]) (fun _ hS => Ssa.exec_load rfl (Ssa.ev e6) (box_load hS)) (Ssa.dst_is rfl e85)
    refine Ssa.AllFin.cons ?_ ?_
    · exact Ssa.fin_val (Ssa.want rfl y48) (.int .i64 g) (fun _ hS => Ssa.exec_move (.inl rfl) (Ssa.ev e2)) (Ssa.dst_is rfl e86)
    refine Ssa.AllFin.cons ?_ ?_
    · refine Ssa.fin_call (Ssa.want rfl y48) 22 [.agg #[.int .i64 (S : Int), .int .i64 (R : Int), .int .i64 (P : Int)], .int .i64 g].toArray (.int .i64 x5) ?_ ?_ ?_
      · exact fun _ _ => Ssa.exec_call rfl rfl (Ssa.evs_cons (Ssa.ev e85) (Ssa.evs_cons (Ssa.ev e86) Ssa.evs_nil)) Try.func22 (by kernel_rfl) rfl
      · exact K54
      · exact Ssa.dst_is rfl e87
    refine Ssa.AllFin.cons ?_ ?_
    · exact Ssa.fin_val (Ssa.want rfl y48) (.bool true) (fun _ hS => Ssa.exec_eql rfl (Ssa.ev e84) (Ssa.ev e87)) (Ssa.dst_is rfl e88)
    refine Ssa.AllFin.cons ?_ ?_
    · exact Ssa.fin_val rfl (.bool true) (fun _ hS => Ssa.exec_pick rfl (Ssa.ev e81) (Ssa.pick_true (Ssa.ev e88))) (Ssa.dst_is rfl e89)
    refine Ssa.AllFin.cons ?_ ?_
    · exact Ssa.fin_val rfl (.bool true) (fun _ hS => Ssa.exec_move (.inl rfl) (Ssa.ev e89)) (Ssa.dst_is rfl e90)
    refine Ssa.AllFin.cons ?_ ?_
    · exact Ssa.fin_val (Ssa.want rfl y57) (.agg #[.int .i64 (S : Int), .int .i64 (R : Int), .int .i64 (P : Int)]) (fun _ hS => Ssa.exec_load rfl (Ssa.ev e6) (box_load hS)) (Ssa.dst_is rfl e91)
    refine Ssa.AllFin.cons ?_ ?_
    · exact Ssa.fin_val (Ssa.want rfl y57) (.int .i64 ar) (fun _ hS => Ssa.exec_move (.inl rfl) (Ssa.ev e3)) (Ssa.dst_is rfl e92)
    refine Ssa.AllFin.cons ?_ ?_
    · refine Ssa.fin_call (Ssa.want rfl y57) 23 [.agg #[.int .i64 (S : Int), .int .i64 (R : Int), .int .i64 (P : Int)], .int .i64 ar].toArray (.int .i64 x6) ?_ ?_ ?_
      · exact fun _ _ => Ssa.exec_call rfl rfl (Ssa.evs_cons (Ssa.ev e91) (Ssa.evs_cons (Ssa.ev e92) Ssa.evs_nil)) Try.func23 (by kernel_rfl) rfl
      · exact K60
      · exact Ssa.dst_is rfl e93
    refine Ssa.AllFin.cons ?_ ?_
    · exact Ssa.fin_val (Ssa.want rfl y57) (.agg #[.int .i64 (S : Int), .int .i64 (R : Int), .int .i64 (P : Int)]) (fun _ hS => Ssa.exec_load rfl (Ssa.ev e6) (box_load hS)) (Ssa.dst_is rfl e94)
    refine Ssa.AllFin.cons ?_ ?_
    · exact Ssa.fin_val (Ssa.want rfl y57) (.int .i64 ar) (fun _ hS => Ssa.exec_move (.inl rfl) (Ssa.ev e3)) (Ssa.dst_is rfl e95)
    refine Ssa.AllFin.cons ?_ ?_
    · refine Ssa.fin_call (Ssa.want rfl y57) 24 [.agg #[.int .i64 (S : Int), .int .i64 (R : Int), .int .i64 (P : Int)], .int .i64 ar].toArray (.int .i64 x6) ?_ ?_ ?_
      · exact fun _ _ => Ssa.exec_call rfl rfl (Ssa.evs_cons (Ssa.ev e94) (Ssa.evs_cons (Ssa.ev e95) Ssa.evs_nil)) Try.func24 (by kernel_rfl) rfl
      · exact K63
      · exact Ssa.dst_is rfl e96
    refine Ssa.AllFin.cons ?_ ?_
    · exact Ssa.fin_val (Ssa.want rfl y57) (.bool true) (fun _ hS => Ssa.exec_eql rfl (Ssa.ev e93) (Ssa.ev e96)) (Ssa.dst_is rfl e97)
    refine Ssa.AllFin.cons ?_ ?_
    · exact Ssa.fin_val rfl (.bool true) (fun _ hS => Ssa.exec_pick rfl (Ssa.ev e90) (Ssa.pick_true (Ssa.ev e97))) (Ssa.dst_is rfl e98)
    refine Ssa.AllFin.cons ?_ ?_
    · exact Ssa.fin_val rfl (.bool true) (fun _ hS => Ssa.exec_move (.inl rfl) (Ssa.ev e98)) (Ssa.dst_is rfl e99)
    refine Ssa.AllFin.cons ?_ ?_
    · exact Ssa.fin_val (Ssa.want rfl y66) (.agg #[.int .i64 (S : Int), .int .i64 (R : Int), .int .i64 (P : Int)]) (fun _ hS => Ssa.exec_load rfl (Ssa.ev e6) (box_load hS)) (Ssa.dst_is rfl e100)
    refine Ssa.AllFin.cons ?_ ?_
    · exact Ssa.fin_val (Ssa.want rfl y66) (.int .i64 ar) (fun _ hS => Ssa.exec_move (.inl rfl) (Ssa.ev e3)) (Ssa.dst_is rfl e101)
    refine Ssa.AllFin.cons ?_ ?_
    · exact Ssa.fin_val (Ssa.want rfl y66) (.int .i64 k) (fun _ hS => Ssa.exec_move (.inl rfl) (Ssa.ev e4)) (Ssa.dst_is rfl e102)
    refine Ssa.AllFin.cons ?_ ?_
    · refine Ssa.fin_call (Ssa.want rfl y66) 25 [.agg #[.int .i64 (S : Int), .int .i64 (R : Int), .int .i64 (P : Int)], .int .i64 ar, .int .i64 k].toArray (.int .i64 x7) ?_ ?_ ?_
      · exact fun _ _ => Ssa.exec_call rfl rfl (Ssa.evs_cons (Ssa.ev e100) (Ssa.evs_cons (Ssa.ev e101) (Ssa.evs_cons (Ssa.ev e102) Ssa.evs_nil))) Try.func25 (by kernel_rfl) rfl
      · exact K70
      · exact Ssa.dst_is rfl e103
    refine Ssa.AllFin.cons ?_ ?_
    · exact Ssa.fin_val (Ssa.want rfl y66) (.agg #[.int .i64 (S : Int), .int .i64 (R : Int), .int .i64 (P : Int)]) (fun _ hS => Ssa.exec_load rfl (Ssa.ev e6) (box_load hS)) (Ssa.dst_is rfl e104)
    refine Ssa.AllFin.cons ?_ ?_
    · exact Ssa.fin_val (Ssa.want rfl y66) (.int .i64 ar) (fun _ hS => Ssa.exec_move (.inl rfl) (Ssa.ev e3)) (Ssa.dst_is rfl e105)
    refine Ssa.AllFin.cons ?_ ?_
    · exact Ssa.fin_val (Ssa.want rfl y66) (.int .i64 k) (fun _ hS => Ssa.exec_move (.inl rfl) (Ssa.ev e4)) (Ssa.dst_is rfl e106)
    refine Ssa.AllFin.cons ?_ ?_
    · refine Ssa.fin_call (Ssa.want rfl y66) 26 [.agg #[.int .i64 (S : Int), .int .i64 (R : Int), .int .i64 (P : Int)], .int .i64 ar, .int .i64 k].toArray (.int .i64 x7) ?_ ?_ ?_
      · exact fun _ _ => Ssa.exec_call rfl rfl (Ssa.evs_cons (Ssa.ev e104) (Ssa.evs_cons (Ssa.ev e105) (Ssa.evs_cons (Ssa.ev e106) Ssa.evs_nil))) Try.func26 (by kernel_rfl) rfl
      · exact K74
      · exact Ssa.dst_is rfl e107
    refine Ssa.AllFin.cons ?_ ?_
    · exact Ssa.fin_val (Ssa.want rfl y66) (.bool true) (fun _ hS => Ssa.exec_eql rfl (Ssa.ev e103) (Ssa.ev e107)) (Ssa.dst_is rfl e108)
    refine Ssa.AllFin.cons ?_ ?_
    · exact Ssa.fin_val rfl (.bool true) (fun _ hS => Ssa.exec_pick rfl (Ssa.ev e99) (Ssa.pick_true (Ssa.ev e108))) (Ssa.dst_is rfl e109)
    refine Ssa.AllFin.cons ?_ ?_
    · exact Ssa.fin_val rfl (.bool true) (fun _ hS => Ssa.exec_move (.inl rfl) (Ssa.ev e109)) (Ssa.dst_is rfl e110)
    refine Ssa.AllFin.cons ?_ ?_
    · exact Ssa.fin_val (Ssa.want rfl y77) (.int .i64 x8) (fun _ hS => Ssa.exec_move (.inl rfl) (Ssa.ev e13)) (Ssa.dst_is rfl e111)
    refine Ssa.AllFin.cons ?_ ?_
    · exact Ssa.fin_val (Ssa.want rfl y77) (.int .i64 x8) (fun _ hS => Ssa.exec_move (.inl rfl) (Ssa.ev e16)) (Ssa.dst_is rfl e112)
    refine Ssa.AllFin.cons ?_ ?_
    · exact Ssa.fin_val (Ssa.want rfl y77) (.bool true) (fun _ hS => Ssa.exec_eql rfl (Ssa.ev e111) (Ssa.ev e112)) (Ssa.dst_is rfl e113)
    refine Ssa.AllFin.cons ?_ ?_
    · exact Ssa.fin_val rfl (.bool true) (fun _ hS => Ssa.exec_pick rfl (Ssa.ev e110) (Ssa.pick_true (Ssa.ev e113))) (Ssa.dst_is rfl e114)
    refine Ssa.AllFin.cons ?_ ?_
    · exact Ssa.fin_val rfl (.bool true) (fun _ hS => Ssa.exec_move (.inl rfl) (Ssa.ev e114)) (Ssa.dst_is rfl e115)
    refine Ssa.AllFin.cons ?_ ?_
    · exact Ssa.fin_val (Ssa.want rfl y82) (.int .i64 x9) (fun _ hS => Ssa.exec_move (.inl rfl) (Ssa.ev e14)) (Ssa.dst_is rfl e116)
    refine Ssa.AllFin.cons ?_ ?_
    · exact Ssa.fin_val (Ssa.want rfl y82) (.int .i64 x9) (fun _ hS => Ssa.exec_move (.inl rfl) (Ssa.ev e17)) (Ssa.dst_is rfl e117)
    refine Ssa.AllFin.cons ?_ ?_
    · exact Ssa.fin_val (Ssa.want rfl y82) (.bool true) (fun _ hS => Ssa.exec_eql rfl (Ssa.ev e116) (Ssa.ev e117)) (Ssa.dst_is rfl e118)
    refine Ssa.AllFin.cons ?_ ?_
    · exact Ssa.fin_val rfl (.bool true) (fun _ hS => Ssa.exec_pick rfl (Ssa.ev e115) (Ssa.pick_true (Ssa.ev e118))) (Ssa.dst_is rfl e119)
    refine Ssa.AllFin.cons ?_ ?_
    · exact Ssa.fin_val rfl (.bool true) (fun _ hS => Ssa.exec_move (.inl rfl) (Ssa.ev e119)) (Ssa.dst_is rfl e120)
    refine Ssa.AllFin.cons ?_ ?_
    · exact Ssa.fin_val (Ssa.want rfl y87) (.int .i64 x10) (fun _ hS => Ssa.exec_move (.inl rfl) (Ssa.ev e15)) (Ssa.dst_is rfl e121)
    refine Ssa.AllFin.cons ?_ ?_
    · exact Ssa.fin_val (Ssa.want rfl y87) (.int .i64 x10) (fun _ hS => Ssa.exec_move (.inl rfl) (Ssa.ev e18)) (Ssa.dst_is rfl e122)
    refine Ssa.AllFin.cons ?_ ?_
    · exact Ssa.fin_val (Ssa.want rfl y87) (.bool true) (fun _ hS => Ssa.exec_eql rfl (Ssa.ev e121) (Ssa.ev e122)) (Ssa.dst_is rfl e123)
    refine Ssa.AllFin.cons ?_ ?_
    · exact Ssa.fin_val rfl (.bool true) (fun _ hS => Ssa.exec_pick rfl (Ssa.ev e120) (Ssa.pick_true (Ssa.ev e123))) (Ssa.dst_is rfl e124)
    refine Ssa.AllFin.cons ?_ ?_
    · exact Ssa.fin_val rfl (.bool true) (fun _ hS => Ssa.exec_move (.inl rfl) (Ssa.ev e124)) (Ssa.dst_is rfl e125)
    refine Ssa.AllFin.cons ?_ ?_
    · refine Ssa.fin_call (Ssa.want rfl y92) 27 [].toArray (.bool true) ?_ ?_ ?_
      · exact fun _ _ => Ssa.exec_call rfl rfl Ssa.evs_nil Try.func27 (by kernel_rfl) rfl
      · exact K93
      · exact Ssa.dst_is rfl e126
    refine Ssa.AllFin.cons ?_ ?_
    · exact Ssa.fin_val rfl (.bool true) (fun _ hS => Ssa.exec_pick rfl (Ssa.ev e125) (Ssa.pick_true (Ssa.ev e126))) (Ssa.dst_is rfl e127)
    refine Ssa.AllFin.cons ?_ ?_
    · exact Ssa.fin_val rfl (.bool true) (fun _ hS => Ssa.exec_move (.inr rfl) (Ssa.ev e127)) (Ssa.dst_is rfl e12)
    exact Ssa.AllFin.nil
  subst hfin
  intro w' HY
  have HZ := Lib.hid HY.bl
  clear HY
  go_wp2_with fail
  go_ret
  exact ⟨rfl, HZ.out⟩
end Go.Proofs.Ytapejjlnicmfiaa
