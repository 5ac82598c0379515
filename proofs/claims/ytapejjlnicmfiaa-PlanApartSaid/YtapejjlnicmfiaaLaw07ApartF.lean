/- PlanApart's numbers: segments and areas, block by block. -/
import Derived.Test.YtapejjlnicmfiaaLaw07Awake
namespace Go.Proofs.Ytapejjlnicmfiaa
open Go.RowKit
theorem what_small {S R P : Nat} (h : Pl.Right S R P) {b : Nat} (hb : b < 6) (w : World) :
    Calls Try.prog 7 #[.agg #[.int .i64 (S : Int), .int .i64 (R : Int), .int .i64 (P : Int)], .int .i64 (b : Int)] w fun e w' => e = .returned (.tuple #[.int .i64 (1 + (b : Int) / 2), .int .i64 0, .int .i64 ((b : Int) % 2)]) ∧ Below w.heap.size w w' := by
  have hW := what_any h (b : Int) (by omega) (by omega) w
  have hw : whatI S R P (b : Int) = (1 + (b : Int) / 2, 0, (b : Int) % 2) := by
    unfold whatI
    rw [if_pos ⟨by omega, by unfold Pl.all; omega⟩, Int.toNat_natCast, Pl.cell_small hb]
    rfl
  rw [hw] at hW
  exact hW
/-- A segment's blocks, one behind the other: its head, its records, its foot. -/
structure SegRound (S R P i m0 : Nat) : Prop where
  head : Pl.cell S R P m0 = (4, i, 0)
  recs : ∀ k, k < R → Pl.cell S R P (m0 + 1 + k) = (5, i, k)
  foot : Pl.cell S R P (m0 + 1 + R) = (6, i, 0)
  hb : inSegI S R P 4 (i : Int) 0 = (m0 : Int)
  fb : inSegI S R P 6 (i : Int) 0 = ((m0 + 1 + R : Nat) : Int)
  rb : ∀ k, k < R → recI S R P (((i * R + 1 + k : Nat)) : Int) = ((m0 + 1 + k : Nat) : Int)
  fn : fstN R (i : Int) = ((i * R + 1 : Nat) : Int)
theorem blockI_val {S R P k r a : Nat} (hr : r < Pl.many S k) (ha : a < Pl.units R P k) : blockI S R P k (r : Int) (a : Int) = ((Pl.fst S R k + r * Pl.step R P k + a : Nat) : Int) := by
  unfold blockI hasB
  rw [if_pos (decide_eq_true ⟨by omega, by omega, by omega, by omega⟩), ← Int.natCast_mul]; omega
theorem seg_round {S R P i : Nat} (h : Pl.Right S R P) (hi : i < S) : SegRound S R P i (6 + i * (R + 2)) := by
  obtain ⟨c0, c1, c2, _⟩ := seg_cells (P := P) hi
  obtain ⟨s0, s1, r0, r1, p0, p1⟩ := h
  have hR : 0 < R := by omega
  have hs : ∀ q x : Nat, 1 ≤ Pl.units R P q → Pl.many S q = S → Pl.step R P q = R + 2 → Pl.fst S R q = x → inSegI S R P q (i : Int) 0 = ((x + i * (R + 2) : Nat) : Int) := by
    intro q x hu hm ht hx
    unfold inSegI
    rw [if_pos ⟨by omega, by omega⟩, ← Int.natCast_emod, Nat.mod_eq_of_lt hi]
    have := blockI_val (S := S) (R := R) (P := P) (k := q) (r := i) (a := 0) (by rw [hm]; exact hi) hu
    rw [ht, hx] at this
    exact this
  have him : i * R ≤ 16 * 32 := Nat.mul_le_mul (by omega) r1
  refine ⟨c0, c1, c2, ?_, ?_, fun k hk => ?_, ?_⟩
  · have := hs 4 6 (by simp only [Pl.units]; omega) rfl rfl rfl
    exact this
  · have := hs 6 (7 + R) (by simp only [Pl.units]; omega) rfl rfl rfl
    rw [this]; congr 1; omega
  · obtain ⟨e1, e2⟩ := Pl.dm (d := R) (g := i) (i := k) hk
    unfold recI
    rw [if_pos ⟨by omega, by omega⟩, show ((i * R + 1 + k : Nat) : Int) - 1 = ((i * R + k : Nat) : Int) by omega, ← Int.natCast_ediv, ← Int.natCast_emod, ← Int.natCast_emod, e1, e2, Nat.mod_eq_of_lt hi]
    rw [blockI_val (by simp only [Pl.many]; exact hi) (by simp only [Pl.units]; exact hk)]
    simp only [Pl.fst, Pl.step]
    congr 1; omega
  · unfold fstN
    rw [if_pos ⟨by omega, by omega⟩, ← Int.natCast_mul]; omega
/-- An area's blocks, one behind the other: its snapshot, its pieces. -/
structure AreaRound (S R P a m0 : Nat) : Prop where
  snap : Pl.cell S R P m0 = (8, a, 0)
  pies : ∀ k, k < P → Pl.cell S R P (m0 + 1 + k) = (7, a, k)
  sb : blockI S R P 8 (a : Int) 0 = (m0 : Int)
  pb : ∀ k, k < P → blockI S R P 7 (a : Int) (k : Int) = ((m0 + 1 + k : Nat) : Int)
theorem area_round {S R P a : Nat} (ha : a < 2) : AreaRound S R P a (6 + S * (R + 2) + a * (P + 1)) := by
  obtain ⟨c0, c1, _⟩ := area_cells (S := S) (R := R) (P := P) ha
  refine ⟨c0, c1, ?_, fun k hk => ?_⟩
  · have := blockI_val (S := S) (R := R) (P := P) (k := 8) (r := a) (a := 0) (by simp only [Pl.many]; exact ha) (by simp only [Pl.units]; omega)
    exact this
  · rw [blockI_val (by simp only [Pl.many]; exact ha) (by simp only [Pl.units]; exact hk)]
    simp only [Pl.fst, Pl.step]
    congr 1; omega
theorem seg_room2 {S R P i : Nat} (hi : i < S) : 6 + i * (R + 2) + R + 2 ≤ Pl.all S R P := by
  have := Pl.mul_le (c := R + 2) hi
  unfold Pl.all; omega
end Go.Proofs.Ytapejjlnicmfiaa
