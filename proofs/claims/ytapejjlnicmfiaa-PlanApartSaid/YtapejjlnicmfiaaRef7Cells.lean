/- The document's list of all blocks: cell by cell, as the plain numbers have it. -/
import Derived.Test.YtapejjlnicmfiaaPlanCalls
namespace Go.Proofs.Ytapejjlnicmfiaa
open Go.RowKit
def cellC (c : Nat × Nat × Nat) : List Value := [.int .i64 (c.1 : Int), .int .i64 (c.2.1 : Int), .int .i64 (c.2.2 : Int)]
def cellsN (S R P n : Nat) : List (Nat × Nat × Nat) := (List.range n).map (Pl.cell S R P)
theorem cellsN_succ (S R P n : Nat) : (cellsN S R P (n + 1)).flatMap cellC = (cellsN S R P n).flatMap cellC ++ cellC (Pl.cell S R P n) := by
  unfold cellsN
  rw [List.range_succ, List.map_append, List.flatMap_append]
  simp
theorem cellC_one (c : Nat × Nat × Nat) : ∀ u ∈ cellC c, u.oneCell' = true := by
  intro u hu
  simp only [cellC, List.mem_cons, List.not_mem_nil, or_false] at hu
  rcases hu with rfl | rfl | rfl <;> rfl
theorem infoCell : (Try.prog.info? 48).map (fun i => (i.zero, i.size, i.bytes)) = some (some (.agg #[.int .i64 0, .int .i64 0, .int .i64 0]), 3, 24) := by kernel_rfl
/-- The list as far as it has come, and the call's own copy of the shape. -/
structure CellsAt (w wx : World) (S R P : Nat) (v : Value) (n : Nat) : Prop where
  bx : Boxed w wx (S : Int) (R : Int) (P : Int)
  own : wx.ownsRow (w.heap.size + 1) 48 3 v n ((cellsN S R P n).flatMap cellC)
section
variable {w wx w7 : World} {S R P n : Nat} {v v' : Value}
theorem own_ge {B : Nat} {e : TypeId} {size : Nat} {xs : List Value} (h : wx.ownsRow B e size v n xs) : ∀ k, v.ownBlock = some k → B ≤ k := by
  intro k hk
  rcases h.2 with ⟨rfl, _⟩ | ⟨g, cap, cur, rfl, hb, _⟩
  · cases hk
  · obtain rfl : g = k := by simpa [Value.ownBlock] using hk
    exact hb
theorem CellsAt.below (h : CellsAt w wx S R P v n) (hb : Below wx.heap.size wx w7) : CellsAt w w7 S R P v n := ⟨h.bx.below hb, ownsRow_below h.own hb⟩
theorem CellsAt.slice (h : CellsAt w wx S R P v n) : ∃ X cap, v = .slice X n cap ∧ n ≤ cap ∧ cap ≤ maxLen := own_slice h.own
theorem CellsAt.push (h : CellsAt w wx S R P v n) (ho : w7.ownsRow (w.heap.size + 1) 48 3 v' (n + 1) ((cellsN S R P n).flatMap cellC ++ cellC (Pl.cell S R P n))) (hg : wx.grownBy w7 v.ownBlock) : CellsAt w w7 S R P v' (n + 1) := by
  have hge := own_ge h.own
  refine ⟨⟨h.bx.bl.grown hg h.bx.bl.size (fun k hk => by have := hge k hk; omega), h.bx.box.kept hg (fun e => by have := hge _ e.symm; omega)⟩, ?_⟩
  rw [cellsN_succ]
  exact ho
theorem CellsAt.lit (h : CellsAt w wx S R P v n) {c : Nat × Nat × Nat} {x y z : Int} (hc : Pl.cell S R P n = c) (hx : x = (c.1 : Int)) (hy : y = (c.2.1 : Int)) (hz : z = (c.2.2 : Int)) :
    CellsAt w (wx.alloc (.cells #[.int .i64 x, .int .i64 y, .int .i64 z] 48)) S R P v n ∧
    ∀ j u, (cellC (Pl.cell S R P n))[j]? = some u → (wx.alloc (.cells #[.int .i64 x, .int .i64 y, .int .i64 z] 48)).cell? ((⟨wx.heap.size, 0, none⟩ : Addr).add j) = some u := by
  refine ⟨h.below (below_new _ _), fun j u hj => ?_⟩
  subst hc hx hy hz
  rw [Addr.add_mid, Nat.zero_add, World.cell?_alloc_new, ← List.getElem?_toArray] at *
  exact hj
end
/-- Which cells the loops lay, and where. -/
theorem seg_cells {S R P i : Nat} (hi : i < S) : Pl.cell S R P (6 + i * (R + 2)) = (4, i, 0) ∧ (∀ k, k < R → Pl.cell S R P (6 + i * (R + 2) + 1 + k) = (5, i, k)) ∧ Pl.cell S R P (6 + i * (R + 2) + 1 + R) = (6, i, 0) ∧ 6 + i * (R + 2) + 1 + R + 1 = 6 + (i + 1) * (R + 2) := by
  refine ⟨?_, fun k hk => ?_, ?_, ?_⟩
  · have h := (Pl.cell_seg (P := P) hi (show 0 < R + 2 by omega)).2
    rw [if_pos rfl] at h; exact h
  · have h := (Pl.cell_seg (P := P) hi (show 1 + k < R + 2 by omega)).2
    rw [if_neg (by omega), if_pos (by omega), show 1 + k - 1 = k by omega] at h
    rw [show 6 + i * (R + 2) + 1 + k = 6 + i * (R + 2) + (1 + k) by omega]; exact h
  · have h := (Pl.cell_seg (P := P) hi (show 1 + R < R + 2 by omega)).2
    rw [if_neg (by omega), if_neg (by omega)] at h
    rw [show 6 + i * (R + 2) + 1 + R = 6 + i * (R + 2) + (1 + R) by omega]; exact h
  · rw [Nat.add_mul]; omega
theorem area_cells {S R P a : Nat} (ha : a < 2) : Pl.cell S R P (6 + S * (R + 2) + a * (P + 1)) = (8, a, 0) ∧ (∀ k, k < P → Pl.cell S R P (6 + S * (R + 2) + a * (P + 1) + 1 + k) = (7, a, k)) ∧ 6 + S * (R + 2) + a * (P + 1) + 1 + P = 6 + S * (R + 2) + (a + 1) * (P + 1) := by
  refine ⟨?_, fun k hk => ?_, ?_⟩
  · have h := (Pl.cell_area (S := S) (R := R) ha (show 0 < P + 1 by omega)).2
    rw [if_pos rfl] at h; exact h
  · have h := (Pl.cell_area (S := S) (R := R) ha (show 1 + k < P + 1 by omega)).2
    rw [if_neg (by omega), show 1 + k - 1 = k by omega] at h
    rw [show 6 + S * (R + 2) + a * (P + 1) + 1 + k = 6 + S * (R + 2) + a * (P + 1) + (1 + k) by omega]; exact h
  · rw [Nat.add_mul]; omega
theorem seg_room {S R P i : Nat} (h : Pl.Right S R P) (hi : i ≤ S) : 6 + i * (R + 2) ≤ 600 := by
  have h1 : i * (R + 2) ≤ 16 * 34 := Nat.mul_le_mul (by have := h.s1; omega) (by have := h.r1; omega)
  omega
set_option maxRecDepth 100000 in
set_option maxHeartbeats 1600000 in
theorem cells_not {a b c : Int} (h : rightB a b c = false) (w : World) :
    Calls Try.prog 33 #[.agg #[.int .i64 a, .int .i64 b, .int .i64 c]] w fun e w' => e = .returned (.slice none 0 0) ∧ Below w.heap.size w w' := by
  have HX := Lib.hid (Boxed.start w a b c)
  go_enter Try.func33, Try.ntmps33
  go_wp2_with (go_at_call 10; refine (rright_any a b c _).mono ?_; rw [h]; rintro e w1 ⟨rfl, hb⟩)
  go_ret
  exact ⟨rfl, (HX.out.below hb).bl⟩
theorem six_cells (S R P : Nat) : (cellsN S R P 6).flatMap cellC = [.int .i64 1, .int .i64 0, .int .i64 0, .int .i64 1, .int .i64 0, .int .i64 1, .int .i64 2, .int .i64 0, .int .i64 0, .int .i64 2, .int .i64 0, .int .i64 1, .int .i64 3, .int .i64 0, .int .i64 0, .int .i64 3, .int .i64 0, .int .i64 1] := by
  unfold cellsN
  rw [show List.range 6 = [0, 1, 2, 3, 4, 5] from rfl]
  simp only [List.map_cons, List.map_nil]
  rw [Pl.cell_small (by decide), Pl.cell_small (by decide), Pl.cell_small (by decide), Pl.cell_small (by decide), Pl.cell_small (by decide), Pl.cell_small (by decide)]
  rfl
theorem CellsAt.start {w w1 : World} {S R P : Nat} (h : Boxed w w1 (S : Int) (R : Int) (P : Int)) :
    CellsAt w (w1.alloc (.cells #[.int .i64 1, .int .i64 0, .int .i64 0, .int .i64 1, .int .i64 0, .int .i64 1, .int .i64 2, .int .i64 0, .int .i64 0, .int .i64 2, .int .i64 0, .int .i64 1, .int .i64 3, .int .i64 0, .int .i64 0, .int .i64 3, .int .i64 0, .int .i64 1] 48)) S R P (.slice (some ⟨w1.heap.size, 0, none⟩) 6 6) 6 := by
  refine ⟨h.alloc _, by rw [six_cells]; rfl, .inr ⟨w1.heap.size, 6, _, rfl, h.box.lt, heap_alloc_new w1 _, Nat.le_refl _, by decide, rfl, by rw [six_cells]; rfl⟩⟩
set_option maxRecDepth 100000 in
set_option maxHeartbeats 1600000 in
theorem cells_any {S R P : Nat} (h : Pl.Right S R P) (w : World) :
    Calls Try.prog 33 #[shapeV S R P] w fun e w' => ∃ v, e = .returned v ∧ CellsAt w w' S R P v (Pl.all S R P) := by
  have HX := Lib.hid (Boxed.start w (S : Int) (R : Int) (P : Int))
  have hR := right_of h
  obtain ⟨s0, s1, p0, p1, q0, q1⟩ := h
  go_enter Try.func33, Try.ntmps33
  go_wp2_with (go_at_call 10; refine (rright_any (S : Int) (R : Int) (P : Int) _).mono ?_; rw [hR]; rintro e w1 ⟨rfl, hb⟩; have HX1 := Lib.hid (HX.out.below hb); clear hb)
  go_loopg [3, 4] S (fun g o x wx => ∃ i : Nat, i + g = S ∧ x = .int .i64 (i : Int) ∧ CellsAt w wx S R P o (6 + i * (R + 2)))
  case atStart => exact ⟨0, by omega, rfl, by rw [Nat.zero_mul]; exact CellsAt.start HX1.out⟩
  case round =>
    obtain ⟨i, hi, rfl, hB⟩ := hrel
    have hroom := seg_room (S := S) (P := P) (i := i) ⟨s0, s1, p0, p1, q0, q1⟩ (by omega)
    obtain ⟨X, cap, rfl, _, _⟩ := hB.slice
    obtain ⟨i0, hT1, hT2⟩ := info_parts infoCell
    have hT := Lib.hid (And.intro hT1 hT2)
    clear hT1 hT2
    by_cases hl : (i : Int) < (S : Int)
    · obtain ⟨c0, c1, c2, c3⟩ := seg_cells (P := P) (show i < S by omega)
      have HX3 := Lib.hid c3
      clear c3
      generalize 6 + i * (R + 2) = n at *
      have HL := Lib.hid (hB.lit (x := 4) (y := (i : Int)) (z := 0) c0 rfl rfl rfl)
      have Hc1 := Lib.hid c1
      have Hc2 := Lib.hid c2
      have Hn := Lib.hid hroom
      obtain ⟨r0, r1, r2⟩ := hB.bx.cells
      clear c0 c1 c2 hB hroom
      go_wp2_with (refine wpList_append_own_at _ rfl (.tmp 24) (.tmp 27) 45 rfl (w.heap.size + 1) 48 i0 (.agg #[.int .i64 0, .int .i64 0, .int .i64 0]) 3 24 Try.underlying45 hT.out.1 hT.out.2.1 hT.out.2.2.1 hT.out.2.2.2 rfl (by decide) _ _ _ rfl HL.out.1.own ⟨wr.heap.size, 0, none⟩ 1 1 _ rfl rfl HL.out.2 (cellC_one _) (by have := Hn.out; unfold maxLen; omega) (by have := Hn.out; omega) HL.out.1.bx.box.lt ?_; intro va wa hoa hga _ _; have HBa := Lib.hid (HL.out.1.push hoa hga); obtain ⟨Xa, capa, rfl, _, _⟩ := own_slice hoa; clear hoa hga; obtain ⟨q0, q1, q2⟩ := HBa.out.bx.cells)
      go_loopg [3, 5] R (fun g o x wx => ∃ k : Nat, k + g = R ∧ x = .int .i64 (k : Int) ∧ CellsAt w wx S R P o (n + 1 + k))
      case atStart => exact ⟨0, by omega, rfl, HBa.out⟩
      case round =>
        obtain ⟨k, hk, rfl, hB⟩ := hrel
        obtain ⟨X2, cap2, rfl, _, _⟩ := hB.slice
        obtain ⟨t0, t1, t2⟩ := hB.bx.cells
        by_cases hlk : (k : Int) < (R : Int)
        · have HL2 := Lib.hid (hB.lit (x := 5) (y := (i : Int)) (z := (k : Int)) (Hc1.out k (by omega)) rfl rfl rfl)
          clear hB q0 q1 q2 r0 r1 r2
          go_wp2_with (refine wpList_append_own_at _ rfl (.tmp 35) (.tmp 39) 45 rfl (w.heap.size + 1) 48 i0 (.agg #[.int .i64 0, .int .i64 0, .int .i64 0]) 3 24 Try.underlying45 hT.out.1 hT.out.2.1 hT.out.2.2.1 hT.out.2.2.2 rfl (by decide) _ _ _ rfl HL2.out.1.own ⟨wr.heap.size, 0, none⟩ 1 1 _ rfl rfl HL2.out.2 (cellC_one _) (by have := Hn.out; unfold maxLen; omega) (by have := Hn.out; omega) HL2.out.1.bx.box.lt ?_; intro vb wb hob hgb _ _; have HBb := Lib.hid (HL2.out.1.push hob hgb); obtain ⟨Xb, capb, rfl, _, _⟩ := own_slice hob; clear hob hgb; obtain ⟨q0, q1, q2⟩ := HBb.out.bx.cells)
          go_roundg (gk - 1)
          case measure => omega
          case rel => exact ⟨k + 1, by omega, rfl, HBb.out⟩
        · obtain rfl : k = R := by omega
          have HL2 := Lib.hid (hB.lit (x := 6) (y := (i : Int)) (z := 0) Hc2.out rfl rfl rfl)
          clear hB q0 q1 q2 r0 r1 r2
          go_wp2_with (refine wpList_append_own_at _ rfl (.tmp 41) (.tmp 44) 45 rfl (w.heap.size + 1) 48 i0 (.agg #[.int .i64 0, .int .i64 0, .int .i64 0]) 3 24 Try.underlying45 hT.out.1 hT.out.2.1 hT.out.2.2.1 hT.out.2.2.2 rfl (by decide) _ _ _ rfl HL2.out.1.own ⟨wr.heap.size, 0, none⟩ 1 1 _ rfl rfl HL2.out.2 (cellC_one _) (by have := Hn.out; unfold maxLen; omega) (by have := Hn.out; omega) HL2.out.1.bx.box.lt ?_; intro vc wc hoc hgc _ _; have HBc := Lib.hid (HL2.out.1.push hoc hgc); obtain ⟨Xc, capc, rfl, _, _⟩ := own_slice hoc; clear hoc hgc; obtain ⟨q0, q1, q2⟩ := HBc.out.bx.cells)
          go_roundg (S - (i + 1))
          case measure => omega
          case rel => exact ⟨i + 1, by omega, rfl, by rw [← HX3.out]; exact HBc.out⟩
    · have hiS : i = S := by omega
      have HB := Lib.hid (hiS ▸ hB)
      have hroom2 := Lib.hid (hiS ▸ hroom)
      obtain ⟨r0, r1, r2⟩ := hB.bx.cells
      clear hB hroom
      go_wp2_with fail
      go_loopg [3, 6] 2 (fun g o x wx => ∃ a : Nat, a + g = 2 ∧ x = .int .i64 (a : Int) ∧ CellsAt w wx S R P o (6 + S * (R + 2) + a * (P + 1)))
      case atStart => exact ⟨0, rfl, rfl, by rw [Nat.zero_mul, Nat.add_zero]; subst hiS; exact HB.out⟩
      case round =>
        obtain ⟨a, ha, rfl, hB⟩ := hrel
        clear r0 r1 r2
        obtain ⟨r0, r1, r2⟩ := hB.bx.cells
        obtain ⟨Xo, capo, rfl, _, _⟩ := hB.slice
        by_cases hl2 : (a : Int) < 2
        · obtain ⟨c0, c1, c3⟩ := area_cells (S := S) (R := R) (P := P) (show a < 2 by omega)
          have hroom3 : 6 + S * (R + 2) + a * (P + 1) ≤ 700 := by
            have := hroom2.out
            have h2 : a * (P + 1) ≤ 1 * 49 := Nat.mul_le_mul (by omega) (by omega)
            omega
          have HX3 := Lib.hid c3
          clear c3
          generalize 6 + S * (R + 2) + a * (P + 1) = n at *
          have HL := Lib.hid (hB.lit (x := 8) (y := (a : Int)) (z := 0) c0 rfl rfl rfl)
          have Hc1 := Lib.hid c1
          have Hn := Lib.hid hroom3
          clear c0 c1 hB hroom3
          go_wp2_with (refine wpList_append_own_at _ rfl (.tmp 50) (.tmp 53) 45 rfl (w.heap.size + 1) 48 i0 (.agg #[.int .i64 0, .int .i64 0, .int .i64 0]) 3 24 Try.underlying45 hT.out.1 hT.out.2.1 hT.out.2.2.1 hT.out.2.2.2 rfl (by decide) _ _ _ rfl HL.out.1.own ⟨wr.heap.size, 0, none⟩ 1 1 _ rfl rfl HL.out.2 (cellC_one _) (by have := Hn.out; unfold maxLen; omega) (by have := Hn.out; omega) HL.out.1.bx.box.lt ?_; intro va wa hoa hga _ _; have HBa := Lib.hid (HL.out.1.push hoa hga); obtain ⟨Xa, capa, rfl, _, _⟩ := own_slice hoa; clear hoa hga; obtain ⟨q0, q1, q2⟩ := HBa.out.bx.cells)
          go_loopg [3, 7] P (fun g o x wx => ∃ k : Nat, k + g = P ∧ x = .int .i64 (k : Int) ∧ CellsAt w wx S R P o (n + 1 + k))
          case atStart => exact ⟨0, by omega, rfl, HBa.out⟩
          case round =>
            obtain ⟨k, hk, rfl, hB⟩ := hrel
            obtain ⟨X2, cap2, rfl, _, _⟩ := hB.slice
            obtain ⟨t0, t1, t2⟩ := hB.bx.cells
            clear r0 r1 r2 q0 q1 q2
            by_cases hlk : (k : Int) < (P : Int)
            · have HL2 := Lib.hid (hB.lit (x := 7) (y := (a : Int)) (z := (k : Int)) (Hc1.out k (by omega)) rfl rfl rfl)
              clear hB
              go_wp2_with (refine wpList_append_own_at _ rfl (.tmp 61) (.tmp 65) 45 rfl (w.heap.size + 1) 48 i0 (.agg #[.int .i64 0, .int .i64 0, .int .i64 0]) 3 24 Try.underlying45 hT.out.1 hT.out.2.1 hT.out.2.2.1 hT.out.2.2.2 rfl (by decide) _ _ _ rfl HL2.out.1.own ⟨wr.heap.size, 0, none⟩ 1 1 _ rfl rfl HL2.out.2 (cellC_one _) (by have := Hn.out; unfold maxLen; omega) (by have := Hn.out; omega) HL2.out.1.bx.box.lt ?_; intro vb wb hob hgb _ _; have HBb := Lib.hid (HL2.out.1.push hob hgb); obtain ⟨Xb, capb, rfl, _, _⟩ := own_slice hob; clear hob hgb; obtain ⟨q0, q1, q2⟩ := HBb.out.bx.cells)
              go_roundg (gk - 1)
              case measure => omega
              case rel => exact ⟨k + 1, by omega, rfl, HBb.out⟩
            · obtain rfl : k = P := by omega
              have HB2 := Lib.hid hB
              clear hB
              go_wp2_with fail
              go_roundg (2 - (a + 1))
              case measure => omega
              case rel => exact ⟨a + 1, by omega, rfl, by rw [← HX3.out]; exact HB2.out⟩
        · obtain rfl : a = 2 := by omega
          have HB3 := Lib.hid hB
          clear hB
          go_wp2_with fail
          go_ret
          exact ⟨_, rfl, HB3.out⟩
end Go.Proofs.Ytapejjlnicmfiaa
