/- plan.rowsOf: the rows of metas, bounds, names; of snapshots, pieces. -/
import Derived.Test.YtapejjlnicmfiaaPlanRows
namespace Go.Proofs.Ytapejjlnicmfiaa
open Go.RowKit
set_option maxRecDepth 100000 in
set_option maxHeartbeats 1600000 in
theorem rowsOf_small {S R P : Nat} (h : Pl.Right S R P) (k : Nat) (hk : k = 1 ∨ k = 2 ∨ k = 3) (w : World) :
    Calls Try.prog 30 #[shapeV S R P, .int .i64 (k : Int)] w fun e w' => e = .returned (rowsV S R P k) ∧ Below w.heap.size w w' := by
  have HK := Lib.hid (RowsKeep.start w S R P)
  rcases hk with rfl | rfl | rfl
  all_goals go_enter Try.func30, Try.ntmps30
  iterate 3
    · go_wp2_with (go_at_call 35; refine (first_any h _ (by decide) (by decide) _).mono ?_; rintro e w1 ⟨rfl, hb1⟩; have HK1 := Lib.hid (HK.out.below hb1); clear hb1; have hz := fun o => (HK1.out.alloc o).zeros)
      exact (HK1.out.alloc _).post _ _ _ _ rfl _ rfl
set_option maxRecDepth 100000 in
set_option maxHeartbeats 1600000 in
theorem rowsOf_area {S R P : Nat} (h : Pl.Right S R P) (k : Nat) (hk : k = 7 ∨ k = 8) (w : World) :
    Calls Try.prog 30 #[shapeV S R P, .int .i64 (k : Int)] w fun e w' => e = .returned (rowsV S R P k) ∧ Below w.heap.size w w' := by
  have HK := Lib.hid (RowsKeep.start w S R P)
  rcases hk with rfl | rfl
  all_goals go_enter Try.func30, Try.ntmps30
  iterate 2
    · go_wp2_with (first | (go_at_call 35; refine (first_any h _ (by decide) (by decide) _).mono ?_; rintro e w1 ⟨rfl, hb1⟩; have HK1 := Lib.hid (HK.out.below hb1); clear hb1; have hc := fun o => (HK1.out.alloc o).cells) | (go_at_call 36; (with_reducible refine (areaBlocks_any h _).mono ?_); rintro e w3 ⟨rfl, hb3⟩; have hr := (BlockIs.made w1 _ _).below hb3 (by simp); have r0 := hr.cell 0; have r1 := hr.cell 1; have r2 := hr.cell 2; have r3 := hr.cell 3; have f1 := hr.free 1; have f2 := hr.free 2; have HK3 := Lib.hid (((HK1.out.alloc _).below hb3)); have HK4 := Lib.hid ((HK3.out.set w1.heap.size 1 HK1.out.res.lt (.int .i64 2)).set w1.heap.size 2 HK1.out.res.lt (.int .i64 ((P : Int) + 1))); have hz := HK4.out.zeros; clear hc hb3 hr))
      exact HK4.out.post _ _ _ _ rfl _ rfl
end Go.Proofs.Ytapejjlnicmfiaa
