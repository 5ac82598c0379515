/- plan.rowsOf: the rows of heads, records, feet. -/
import Derived.Test.YtapejjlnicmfiaaPlanRows
namespace Go.Proofs.Ytapejjlnicmfiaa
open Go.RowKit
set_option maxRecDepth 100000 in
set_option maxHeartbeats 1600000 in
theorem rowsOf_seg {S R P : Nat} (h : Pl.Right S R P) (k : Nat) (hk : k = 4 ∨ k = 5 ∨ k = 6) (w : World) :
    Calls Try.prog 30 #[shapeV S R P, .int .i64 (k : Int)] w fun e w' => e = .returned (rowsV S R P k) ∧ Below w.heap.size w w' := by
  have HK := Lib.hid (RowsKeep.start w S R P)
  rcases hk with rfl | rfl | rfl
  all_goals go_enter Try.func30, Try.ntmps30
  iterate 3
    · go_wp2_with (go_at_call 35; refine (first_any h _ (by decide) (by decide) _).mono ?_; rintro e w1 ⟨rfl, hb1⟩; have HK1 := Lib.hid (HK.out.below hb1); clear hb1; have hc := fun o => (HK1.out.alloc o).cells)
      go_region_with (first | (go_at_call 41; (with_reducible refine (segBlocks_any h _).mono ?_); rintro e w3 ⟨rfl, hb3'⟩; have hb3 : Below _ (w1.alloc _) w3 := (by first | exact hb3' | exact undrew hb3'); have hr := (BlockIs.made w1 _ _).below hb3 (by simp); have r1 := hr.cell 1; have r2 := hr.cell 2; have f1 := hr.free 1; have f2 := hr.free 2; have HK3 := Lib.hid ((HK1.out.alloc _).below hb3); obtain ⟨q0, q1, q2⟩ := HK3.out.cells; clear hb3'))
      all_goals
        have hlt : w.heap.size + 1 < w1.heap.size := HK1.out.res.lt
        have hr1 := hr.set1 1 (.int .i64 (S : Int))
        have hr2 := hr1.set1 2 (.int .i64 ((R : Int) + 2))
        have HK4 := Lib.hid ((HK3.out.set w1.heap.size 1 hlt (.int .i64 (S : Int))).set w1.heap.size 2 hlt (.int .i64 ((R : Int) + 2)))
        clear hlt hr hr1 r1 r2 f1 f2 q0 q1 q2 hb3 hc
        generalize (w3.setCell ⟨w1.heap.size, 1, none⟩ (.int .i64 (S : Int))).setCell ⟨w1.heap.size, 2, none⟩ (.int .i64 ((R : Int) + 2)) = w4 at *
        have c0 := hr2.cell 0
        have c1 := hr2.cell 1
        have c2 := hr2.cell 2
        have c3 := hr2.cell 3
        have hz := HK4.out.zeros
        clear hr2
        go_wp2_with fail
        exact HK4.out.post _ _ _ _ rfl _ rfl
end Go.Proofs.Ytapejjlnicmfiaa
