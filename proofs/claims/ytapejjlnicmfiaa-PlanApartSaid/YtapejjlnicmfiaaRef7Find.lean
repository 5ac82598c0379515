/- The document's search of a unit's block: where the plain numbers have it. -/
import Derived.Test.YtapejjlnicmfiaaRef7Cells
import Derived.Test.YtapejjlnicmfiaaPlanWhat
namespace Go.Proofs.Ytapejjlnicmfiaa
open Go.RowKit
section
variable {w wx : World} {S R P n : Nat} {v : Value}
theorem cellsN_len (S R P n : Nat) : ((cellsN S R P n).flatMap cellC).length = n * 3 := by
  induction n with
  | zero => rfl
  | succ n ih => rw [cellsN_succ, List.length_append, ih]; show n * 3 + 3 = _; omega
theorem cellsN_get (S R P : Nat) : ∀ n i, i < n → ∀ j, j < 3 → ((cellsN S R P n).flatMap cellC)[i * 3 + j]? = (cellC (Pl.cell S R P i))[j]? := by
  intro n
  induction n with
  | zero => intro i hi; omega
  | succ n ih =>
    intro i hi j hj
    rw [cellsN_succ]
    by_cases h : i < n
    · rw [List.getElem?_append_left (by rw [cellsN_len]; omega)]
      exact ih i h j hj
    · obtain rfl : i = n := by omega
      rw [List.getElem?_append_right (by rw [cellsN_len]; omega), cellsN_len, show i * 3 + j - i * 3 = j by omega]
/-- The cells of what lies in block i. -/
theorem CellsAt.get (h : CellsAt w wx S R P v n) {i : Nat} (hi : i < n) : ∃ g cap, v = .slice (some ⟨g, 0, none⟩) n cap ∧ wx.cell? ⟨g, i * 3, none⟩ = some (.int .i64 ((Pl.cell S R P i).1 : Int)) ∧ wx.cell? ⟨g, i * 3 + 1, none⟩ = some (.int .i64 ((Pl.cell S R P i).2.1 : Int)) ∧ wx.cell? ⟨g, i * 3 + 2, none⟩ = some (.int .i64 ((Pl.cell S R P i).2.2 : Int)) := by
  obtain ⟨g, cap, rfl, _⟩ := own_form h.own (show 0 < n by omega)
  refine ⟨g, cap, rfl, ?_, ?_, ?_⟩
  · have h0 := h.own.cellAt (i * 3 + 0) (by omega)
    rw [cellsN_get S R P n i hi 0 (by decide)] at h0; exact h0
  · have h0 := h.own.cellAt (i * 3 + 1) (by omega)
    rw [cellsN_get S R P n i hi 1 (by decide)] at h0; exact h0
  · have h0 := h.own.cellAt (i * 3 + 2) (by omega)
    rw [cellsN_get S R P n i hi 2 (by decide)] at h0; exact h0
end
/-- What lies in block i is this. -/
def isCell (S R P i k : Nat) (x y : Int) : Prop := (Pl.cell S R P i).1 = k ∧ ((Pl.cell S R P i).2.1 : Int) = x ∧ ((Pl.cell S R P i).2.2 : Int) = y
section
variable {S R P k : Nat} {x y : Int}
theorem find_yes (k0 : 1 ≤ k) (k1 : k ≤ 8) {i : Nat} (hi : i < Pl.all S R P) (h : isCell S R P i k x y) : blockI S R P k x y = (i : Int) := by
  obtain ⟨h1, rfl, rfl⟩ := h
  obtain ⟨⟨k', r, a⟩, hc⟩ : ∃ z, Pl.cell S R P i = z := ⟨_, rfl⟩
  rw [hc] at h1 ⊢
  obtain rfl : k' = k := h1
  obtain ⟨_, _, hr, ha, hn⟩ := Pl.has hi hc
  unfold blockI hasB
  dsimp only
  rw [if_pos (decide_eq_true ⟨by omega, by omega, by omega, by omega⟩), hn, Int.natCast_add, Int.natCast_add, Int.natCast_mul]
theorem find_no (k0 : 1 ≤ k) (k1 : k ≤ 8) (h : ∀ i, i < Pl.all S R P → ¬ isCell S R P i k x y) : blockI S R P k x y = -1 := by
  unfold blockI hasB
  by_cases hb : 0 ≤ x ∧ x < (Pl.many S k : Int) ∧ 0 ≤ y ∧ y < (Pl.units R P k : Int)
  · exfalso
    obtain ⟨x0, x1, y0, y1⟩ := hb
    obtain ⟨r, rfl⟩ := Int.eq_ofNat_of_zero_le x0
    obtain ⟨a, rfl⟩ := Int.eq_ofNat_of_zero_le y0
    obtain ⟨hl, hc⟩ := Pl.lies k0 k1 (show r < Pl.many S k by omega) (show a < Pl.units R P k by omega)
    exact h _ hl ⟨by rw [hc], by rw [hc], by rw [hc]⟩
  · rw [if_neg (by rw [decide_eq_false hb]; decide)]
end
theorem not_next {p : Nat → Prop} {i : Nat} (h : ∀ j, j < i → ¬ p j) (hi : ¬ p i) : ∀ j, j < i + 1 → ¬ p j := by
  intro j hj
  rcases (show j < i ∨ j = i by omega) with h1 | rfl
  · exact h j h1
  · exact hi
set_option maxRecDepth 100000 in
set_option maxHeartbeats 1600000 in
theorem find_any {S R P : Nat} (h : Pl.Right S R P) (k : Nat) (k0 : 1 ≤ k) (k1 : k ≤ 8) (x y : Int) (w : World) :
    Calls Try.prog 38 #[shapeV S R P, .agg #[.int .i64 (k : Int), .int .i64 x, .int .i64 y]] w fun e w' => e = .returned (.int .i64 (blockI S R P k x y)) ∧ Below w.heap.size w w' := by
  have HC := Lib.hid (cells_any h)
  have HL := Lib.hid (Pl.all_le h)
  have HY := Lib.hid (fun i => find_yes (S := S) (R := R) (P := P) (x := x) (y := y) k0 k1 (i := i))
  have HN := Lib.hid (find_no (S := S) (R := R) (P := P) (x := x) (y := y) k0 k1)
  generalize blockI S R P k x y = bi at *
  generalize Pl.all S R P = N at *
  have hbl := (below_new w (.cells #[.int .i64 (S : Int), .int .i64 (R : Int), .int .i64 (P : Int)] 23)).alloc (by simp) (.cells #[.int .i64 (k : Int), .int .i64 x, .int .i64 y] 48)
  have hcb := BlockIs.made (w.alloc (.cells #[.int .i64 (S : Int), .int .i64 (R : Int), .int .i64 (P : Int)] 23)) 48 #[.int .i64 (k : Int), .int .i64 x, .int .i64 y]
  rw [World.size_alloc] at hcb
  have HB := Lib.hid (And.intro hbl hcb)
  clear hbl hcb
  go_enter Try.func38, Try.ntmps38
  go_wp2_with (go_at_call 33; refine (HC.out _).mono ?_; rintro e w1 ⟨v, rfl, hC⟩; have HC1 := Lib.hid hC; obtain ⟨X, cap, rfl, _, _⟩ := hC.slice; have HB1 := Lib.hid (And.intro (HB.out.1.trans (hC.bx.bl.mono HB.out.1.size)) (HB.out.2.below hC.bx.bl HB.out.2.lt)); clear hC)
  go_loopg [6] N (fun g o wx => ∃ i : Nat, i + g = N ∧ o = .int .i64 (i : Int) ∧ Below w1.heap.size w1 wx ∧ Hid (∀ j, j < i → ¬ isCell S R P j k x y))
  case atStart => exact ⟨0, by omega, rfl, Below.refl _ _, Lib.hid (fun j hj => absurd hj (Nat.not_lt_zero j))⟩
  case round =>
    obtain ⟨i, hi, rfl, hb, hN⟩ := hrel
    have Hb := Lib.hid hb
    have HC2 := Lib.hid (HC1.out.below hb)
    have HB2 := Lib.hid (And.intro (HB1.out.1.trans (hb.mono HB1.out.1.size)) (HB1.out.2.below hb HB1.out.2.lt))
    by_cases hl : (i : Int) < (N : Int)
    · obtain ⟨g, cap', e, g0, g1, g2⟩ := HC2.out.get (show i < N by omega)
      obtain ⟨rfl, rfl⟩ : X = some ⟨g, 0, none⟩ ∧ cap = cap' := by simpa using e
      have t0 := HB2.out.2.cell 0
      have t1 := HB2.out.2.cell 1
      have t2 := HB2.out.2.cell 2
      clear e hb
      obtain ⟨⟨a1, a2, a3⟩, hc⟩ : ∃ z, Pl.cell S R P i = z := ⟨_, rfl⟩
      rw [hc] at g0 g1 g2
      have Hc := Lib.hid hc
      clear hc
      by_cases e1 : (a1 : Int) = (k : Int)
      · by_cases e2 : (a2 : Int) = x
        · by_cases e3 : (a3 : Int) = y
          · have HR := Lib.hid (HY.out i (by omega) ⟨by rw [Hc.out]; show a1 = k; omega, by rw [Hc.out]; exact e2, by rw [Hc.out]; exact e3⟩)
            go_wp2_with fail
            go_region
            all_goals go_wp2_with fail
            all_goals go_ret
            all_goals exact ⟨ret_int HR.out.symm, HB2.out.1.drew⟩
          · have HR : Hid (¬ isCell S R P i k x y) := Lib.hid (fun h0 => e3 (by have := h0.2.2; rw [Hc.out] at this; exact this))
            go_wp2_with fail
            go_region
            all_goals go_wp2_with fail
            go_roundg (gk - 1)
            case measure => omega
            case rel => exact ⟨i + 1, by omega, val_int (by have := HL.out; unfold wrap64; omega), Hb.out.drew, Lib.hid (not_next hN.out HR.out)⟩
        · have HR : Hid (¬ isCell S R P i k x y) := Lib.hid (fun h0 => e2 (by have := h0.2.1; rw [Hc.out] at this; exact this))
          go_wp2_with fail
          go_region
          all_goals go_wp2_with fail
          go_roundg (gk - 1)
          case measure => omega
          case rel => exact ⟨i + 1, by omega, val_int (by have := HL.out; unfold wrap64; omega), Hb.out.drew, Lib.hid (not_next hN.out HR.out)⟩
      · have HR : Hid (¬ isCell S R P i k x y) := Lib.hid (fun h0 => e1 (by have := h0.1; rw [Hc.out] at this; exact congrArg _ this))
        go_wp2_with fail
        go_region
        all_goals go_wp2_with fail
        go_roundg (gk - 1)
        case measure => omega
        case rel => exact ⟨i + 1, by omega, val_int (by have := HL.out; unfold wrap64; omega), Hb.out.drew, Lib.hid (not_next hN.out HR.out)⟩
    · obtain rfl : i = N := by omega
      clear hb
      go_wp2_with fail
      go_ret
      exact ⟨ret_int (HN.out hN.out).symm, HB2.out.1⟩
end Go.Proofs.Ytapejjlnicmfiaa
