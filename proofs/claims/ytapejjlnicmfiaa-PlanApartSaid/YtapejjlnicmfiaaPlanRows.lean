/- plan's rows: how the units of a kind lie, in which row a block would lie, which block a unit has. -/
import Derived.Test.YtapejjlnicmfiaaPlanIn
namespace Go.Proofs.Ytapejjlnicmfiaa
open Go.RowKit
abbrev shapeV (S R P : Nat) : Value := .agg #[.int .i64 (S : Int), .int .i64 (R : Int), .int .i64 (P : Int)]
set_option maxRecDepth 100000 in
set_option maxHeartbeats 800000 in
theorem segBlocks_any {S R P : Nat} (h : Pl.Right S R P) (w : World) :
    Calls Try.prog 41 #[shapeV S R P] w fun e w' => e = .returned (.int .i64 ((R + 2 : Nat) : Int)) ∧ Below w.heap.size w w' := by
  have HB := Lib.hid (below_new w (.cells #[.int .i64 (S : Int), .int .i64 (R : Int), .int .i64 (P : Int)] 23))
  obtain ⟨h0, h1, h2, h3, h4, h5⟩ := h
  go_enter Try.func41, Try.ntmps41
  go_wp2_with fail
  go_ret
  exact ⟨ret_int (by omega), HB.out⟩
set_option maxRecDepth 100000 in
set_option maxHeartbeats 800000 in
theorem areaBlocks_any {S R P : Nat} (h : Pl.Right S R P) (w : World) :
    Calls Try.prog 36 #[shapeV S R P] w fun e w' => e = .returned (.int .i64 ((P + 1 : Nat) : Int)) ∧ Below w.heap.size w w' := by
  have HB := Lib.hid (below_new w (.cells #[.int .i64 (S : Int), .int .i64 (R : Int), .int .i64 (P : Int)] 23))
  obtain ⟨h0, h1, h2, h3, h4, h5⟩ := h
  go_enter Try.func36, Try.ntmps36
  go_wp2_with fail
  go_ret
  exact ⟨ret_int (by omega), HB.out⟩
theorem segs_parts {S R P : Nat} (h : Pl.Right S R P) : ∃ T M : Nat, S * (R + 2) = T ∧ ((S : Int) - 1) * ((R : Int) + 2) = (M : Int) ∧ M + (R + 2) = T ∧ T ≤ 544 := by
  obtain ⟨h0, h1, h2, h3, h4, h5⟩ := h
  have hm2 : S * (R + 2) ≤ 16 * 34 := Nat.mul_le_mul h1 (by omega)
  refine ⟨_, (S - 1) * (R + 2), rfl, ?_, ?_, hm2⟩
  · rw [Int.natCast_mul, Int.natCast_sub (by omega)]; rfl
  · rw [Nat.sub_mul, Nat.one_mul]
    exact Nat.sub_add_cancel (Nat.le_mul_of_pos_left _ (by omega))
set_option maxRecDepth 100000 in
set_option maxHeartbeats 800000 in
theorem first_any {S R P : Nat} (h : Pl.Right S R P) (k : Nat) (k0 : 1 ≤ k) (k1 : k ≤ 8) (w : World) :
    Calls Try.prog 35 #[shapeV S R P, .int .i64 (k : Int)] w fun e w' => e = .returned (.int .i64 (Pl.fst S R k : Int)) ∧ Below w.heap.size w w' := by
  have HB := Lib.hid (below_new w (.cells #[.int .i64 (S : Int), .int .i64 (R : Int), .int .i64 (P : Int)] 23))
  have H := h
  obtain ⟨h0, h1, h2, h3, h4, h5⟩ := h
  obtain ⟨T, M, hT, hm, hm2, hm3⟩ := segs_parts H
  have HT := Lib.hid hT
  clear hT
  rcases Pl.kinds k0 k1 with rfl | rfl | rfl | rfl | rfl | rfl | rfl | rfl
  all_goals go_enter Try.func35, Try.ntmps35
  all_goals go_wp2_with (go_at_call 41; refine (segBlocks_any H _).mono ?_; rintro e w' ⟨rfl, hB⟩)
  iterate 6
    · go_ret
      exact ⟨ret_int (by simp only [Pl.fst]; omega), HB.out⟩
  all_goals
    obtain ⟨d0, d1, d2⟩ := row3_cells w (.int .i64 (S : Int)) (.int .i64 (R : Int)) (.int .i64 (P : Int)) 23
    have hk : ∀ w3, Below (w.alloc (.cells #[.int .i64 (S : Int), .int .i64 (R : Int), .int .i64 (P : Int)] 23)).heap.size (w.alloc (.cells #[.int .i64 (S : Int), .int .i64 (R : Int), .int .i64 (P : Int)] 23)) w3 → w3.cell? ⟨w.heap.size, 0, none⟩ = some (.int .i64 (S : Int)) ∧ w3.cell? ⟨w.heap.size, 1, none⟩ = some (.int .i64 (R : Int)) ∧ w3.cell? ⟨w.heap.size, 2, none⟩ = some (.int .i64 (P : Int)) :=
      fun w3 hb => ⟨(hb.cell (p := ⟨w.heap.size, 0, none⟩) (by simp)).trans d0, (hb.cell (p := ⟨w.heap.size, 1, none⟩) (by simp)).trans d1, (hb.cell (p := ⟨w.heap.size, 2, none⟩) (by simp)).trans d2⟩
    have Hk := Lib.hid hk
    clear hk
    go_region_held3 (fun w' => w'.cell? ⟨w.heap.size, 0, none⟩ = some (.int .i64 (S : Int)) ∧ w'.cell? ⟨w.heap.size, 1, none⟩ = some (.int .i64 (R : Int)) ∧ w'.cell? ⟨w.heap.size, 2, none⟩ = some (.int .i64 (P : Int))) (first | exact ⟨d0, d1, d2⟩ | exact ⟨q0, q1, q2⟩)
      (first | (go_at_call 41; (with_reducible refine (segBlocks_any H _).mono ?_); rintro e w3 ⟨rfl, hb3'⟩; have hb3 : Below (w.alloc (.cells #[.int .i64 (S : Int), .int .i64 (R : Int), .int .i64 (P : Int)] 23)).heap.size (w.alloc (.cells #[.int .i64 (S : Int), .int .i64 (R : Int), .int .i64 (P : Int)] 23)) w3 := (by first | exact hb3' | exact undrew hb3'); obtain ⟨q0, q1, q2⟩ := Hk.out w3 hb3))
    all_goals
      clear q0 q1 q2 d0 d1 d2
      go_wp2_with fail
      go_ret
      exact ⟨ret_int (by simp only [Pl.fst, HT.out]; omega), HB.out.trans (hb3.mono HB.out.size)⟩
def rowsV (S R P k : Nat) : Value := .agg #[.int .i64 (Pl.fst S R k : Int), .int .i64 (Pl.many S k : Int), .int .i64 (Pl.step R P k : Int), .int .i64 (Pl.units R P k : Int)]
def zeroRows : Array Value := #[.int .i64 0, .int .i64 0, .int .i64 0, .int .i64 0]
/-- What a call of rowsOf keeps of its own blocks: the shape's box, the result's variable. -/
structure RowsKeep (w w1 : World) (S R P : Nat) : Prop where
  bl : Below w.heap.size w w1
  box : BlockIs w1 w.heap.size 23 #[.int .i64 (S : Int), .int .i64 (R : Int), .int .i64 (P : Int)]
  res : BlockIs w1 (w.heap.size + 1) 40 zeroRows
section
variable {w w1 w2 : World} {S R P : Nat}
theorem RowsKeep.start (w : World) (S R P : Nat) : RowsKeep w ((w.alloc (.cells #[.int .i64 (S : Int), .int .i64 (R : Int), .int .i64 (P : Int)] 23)).alloc (.cells zeroRows 40)) S R P := by
  refine ⟨(below_new w _).alloc (by simp) _, (BlockIs.made w 23 _).below (below_new _ _) (by simp), ?_⟩
  have := BlockIs.made (w.alloc (.cells #[.int .i64 (S : Int), .int .i64 (R : Int), .int .i64 (P : Int)] 23)) 40 zeroRows
  rw [World.size_alloc] at this
  exact this
theorem RowsKeep.below (h : RowsKeep w w1 S R P) (hb : Below w1.heap.size w1 w2) : RowsKeep w w2 S R P :=
  ⟨h.bl.trans (hb.mono h.bl.size), h.box.below hb h.box.lt, h.res.below hb h.res.lt⟩
theorem RowsKeep.alloc (h : RowsKeep w w1 S R P) (o : Obj) : RowsKeep w (w1.alloc o) S R P := h.below (below_new _ _)
theorem BlockIs.other {w : World} {b : Nat} {t : TypeId} {cs : Array Value} (h : BlockIs w b t cs) (g i : Nat) (hne : b ≠ g) (v : Value) : BlockIs (w.setCell ⟨g, i, none⟩ v) b t cs := by
  unfold BlockIs at h ⊢
  simp [World.setCell, Array.getElem?_modify, h, Ne.symm hne]
theorem RowsKeep.set (h : RowsKeep w w1 S R P) (g i : Nat) (hg : w.heap.size + 1 < g) (v : Value) : RowsKeep w (w1.setCell ⟨g, i, none⟩ v) S R P :=
  ⟨h.bl.setCell (show w.heap.size ≤ g by omega) _, h.box.other g i (by omega) v, h.res.other g i (by omega) v⟩
theorem RowsKeep.cells (h : RowsKeep w w1 S R P) : w1.cell? ⟨w.heap.size, 0, none⟩ = some (.int .i64 (S : Int)) ∧ w1.cell? ⟨w.heap.size, 1, none⟩ = some (.int .i64 (R : Int)) ∧ w1.cell? ⟨w.heap.size, 2, none⟩ = some (.int .i64 (P : Int)) :=
  ⟨h.box.cell 0, h.box.cell 1, h.box.cell 2⟩
theorem RowsKeep.zeros (h : RowsKeep w w1 S R P) : w1.cell? ⟨w.heap.size + 1, 0, none⟩ = some (.int .i64 0) ∧ w1.cell? ⟨w.heap.size + 1, 1, none⟩ = some (.int .i64 0) ∧ w1.cell? ⟨w.heap.size + 1, 2, none⟩ = some (.int .i64 0) ∧ w1.cell? ⟨w.heap.size + 1, 3, none⟩ = some (.int .i64 0) ∧
    w1.frozen? ⟨w.heap.size + 1, 0, none⟩ = false ∧ w1.frozen? ⟨w.heap.size + 1, 1, none⟩ = false ∧ w1.frozen? ⟨w.heap.size + 1, 2, none⟩ = false ∧ w1.frozen? ⟨w.heap.size + 1, 3, none⟩ = false :=
  ⟨h.res.cell 0, h.res.cell 1, h.res.cell 2, h.res.cell 3, h.res.free 0, h.res.free 1, h.res.free 2, h.res.free 3⟩
/-- The result's variable with all its cells laid. -/
def laidRows (w w1 : World) (a b c d : Value) : World := (((w1.setCell ⟨w.heap.size + 1, 0, none⟩ a).setCell ⟨w.heap.size + 1, 1, none⟩ b).setCell ⟨w.heap.size + 1, 2, none⟩ c).setCell ⟨w.heap.size + 1, 3, none⟩ d
theorem RowsKeep.done (h : RowsKeep w w1 S R P) (a b c d : Value) : BlockIs (laidRows w w1 a b c d) (w.heap.size + 1) 40 #[a, b, c, d] ∧ Below w.heap.size w (laidRows w w1 a b c d) := by
  have h1 : BlockIs _ _ _ #[a, .int .i64 0, .int .i64 0, .int .i64 0] := h.res.set1 0 a
  have h2 : BlockIs _ _ _ #[a, b, .int .i64 0, .int .i64 0] := h1.set1 1 b
  have h3 : BlockIs _ _ _ #[a, b, c, .int .i64 0] := h2.set1 2 c
  have hc : ∀ (w' : World) (i : Nat) (v : Value), Below w.heap.size w w' → Below w.heap.size w (w'.setCell ⟨w.heap.size + 1, i, none⟩ v) := fun w' i v h => h.setCell (Nat.le_succ _) _
  exact ⟨h3.set1 3 d, hc _ _ _ (hc _ _ _ (hc _ _ _ (hc _ _ _ h.bl)))⟩
theorem sizeRows : (Try.prog.info? 40).map (·.size) = some 4 := by kernel_rfl
theorem RowsKeep.post (h : RowsKeep w w1 S R P) (a b c d : Value) {k : Nat} (hv : rowsV S R P k = .agg #[a, b, c, d]) (tmps : Array Value) (hp : tmps.getD 4 undef = .pointer (some ⟨w.heap.size + 1, 0, none⟩)) :
    bodyPost Try.prog Try.f30 (fun e w' => e = .returned (rowsV S R P k) ∧ Below w.heap.size w w') .ret { tmps := tmps, defers := [] } (laidRows w w1 a b c d) := by
  obtain ⟨h1, h2⟩ := h.done a b c d
  exact bodyPost_ret (v := rowsV S R P k) (by rw [hv]; exact results_cell_row rfl _ _ (w.heap.size + 1) 40 #[a, b, c, d] (0, 0) _ hp h1 Try.underlying40 rfl (by rw [sizeRows]; rfl)) rfl ⟨rfl, h2⟩
end
end Go.Proofs.Ytapejjlnicmfiaa
