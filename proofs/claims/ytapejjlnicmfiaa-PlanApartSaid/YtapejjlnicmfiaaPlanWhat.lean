/- plan.What by a right shape: what lies in a block. -/
import Derived.Test.YtapejjlnicmfiaaPlanCallsS
namespace Go.Proofs.Ytapejjlnicmfiaa
open Go.RowKit
def kindsA : Array Value := #[.int .i64 1, .int .i64 2, .int .i64 3, .int .i64 4, .int .i64 5, .int .i64 6, .int .i64 8, .int .i64 7]
def kindAt (i : Nat) : Nat := if i < 6 then i + 1 else if i = 6 then 8 else 7
theorem kindAt_in {i : Nat} (h : i < 8) : 1 ≤ kindAt i ∧ kindAt i ≤ 8 := by
  unfold kindAt
  split
  · omega
  · split <;> omega
theorem kindAt_all {k : Nat} (h0 : 1 ≤ k) (h1 : k ≤ 8) : ∃ i, i < 8 ∧ kindAt i = k := by
  rcases Pl.kinds h0 h1 with rfl | rfl | rfl | rfl | rfl | rfl | rfl | rfl
  · exact ⟨0, by decide, rfl⟩
  · exact ⟨1, by decide, rfl⟩
  · exact ⟨2, by decide, rfl⟩
  · exact ⟨3, by decide, rfl⟩
  · exact ⟨4, by decide, rfl⟩
  · exact ⟨5, by decide, rfl⟩
  · exact ⟨7, by decide, rfl⟩
  · exact ⟨6, by decide, rfl⟩
theorem sizeKinds : (Try.prog.info? 37).map (·.size) = some 8 := by kernel_rfl
set_option maxRecDepth 100000 in
set_option maxHeartbeats 1600000 in
theorem kinds_any (w : World) :
    Calls Try.prog 29 #[] w fun e w' => e = .returned (.agg kindsA) ∧ Below w.heap.size w w' := by
  go_enter Try.func29, Try.ntmps29
  go_wp2
  refine bodyPost_ret (v := .agg kindsA) (results_cell_row rfl _ _ w.heap.size 37 kindsA (0, 0) _ rfl (heap_alloc_new w _) Try.underlying37 rfl (by rw [sizeKinds]; rfl)) rfl ⟨rfl, below_new w _⟩
theorem rows4_cells (w : World) (x y z u : Value) (t : TypeId) : (w.alloc (.cells #[x, y, z, u] t)).cell? ⟨w.heap.size, 0, none⟩ = some x ∧ (w.alloc (.cells #[x, y, z, u] t)).cell? ⟨w.heap.size, 1, none⟩ = some y ∧ (w.alloc (.cells #[x, y, z, u] t)).cell? ⟨w.heap.size, 2, none⟩ = some z ∧ (w.alloc (.cells #[x, y, z, u] t)).cell? ⟨w.heap.size, 3, none⟩ = some u :=
  ⟨row4_cells w x y z u t 0 _ rfl, row4_cells w x y z u t 1 _ rfl, row4_cells w x y z u t 2 _ rfl, row4_cells w x y z u t 3 _ rfl⟩
theorem BlockIs.four {w : World} {g : Nat} {t : TypeId} {x y z u : Value} (h : BlockIs w g t #[x, y, z, u]) : w.cell? ⟨g, 0, none⟩ = some x ∧ w.cell? ⟨g, 1, none⟩ = some y ∧ w.cell? ⟨g, 2, none⟩ = some z ∧ w.cell? ⟨g, 3, none⟩ = some u :=
  ⟨h.cell 0, h.cell 1, h.cell 2, h.cell 3⟩
/-! ### In which row a block lies -/
def rowOf (S R P k : Nat) (b : Int) : Int := (wrap64 (b - Pl.fst S R k)).tdiv (Pl.step R P k)
def unitOf (S R P k : Nat) (b : Int) : Int := (wrap64 (b - Pl.fst S R k)).tmod (Pl.step R P k)
def whatI (S R P : Nat) (b : Int) : Int × Int × Int :=
  if 0 ≤ b ∧ b < (Pl.all S R P : Int) then (((Pl.cell S R P b.toNat).1 : Int), ((Pl.cell S R P b.toNat).2.1 : Int), ((Pl.cell S R P b.toNat).2.2 : Int)) else (0, 0, 0)
set_option maxRecDepth 100000 in
theorem kinds_index {i : Nat} (hi : i < 8) (w : World) : (Instr.index 37 (.agg kindsA) (.int .i64 (i : Int))).run Try.prog w = .ok (.int .i64 (kindAt i : Int)) w := by
  rcases (show i = 0 ∨ i = 1 ∨ i = 2 ∨ i = 3 ∨ i = 4 ∨ i = 5 ∨ i = 6 ∨ i = 7 by omega) with rfl | rfl | rfl | rfl | rfl | rfl | rfl | rfl <;> kernel_rfl
section
variable {S R P : Nat}
theorem what_yes (h : Pl.Right S R P) {k : Nat} (k0 : 1 ≤ k) (k1 : k ≤ 8) {b : Int} (b0 : -9223372036854775808 ≤ b) (b1 : b ≤ 9223372036854775807) (hb : hasB S R P k (rowOf S R P k b) (unitOf S R P k b) = true) :
    whatI S R P b = ((k : Int), rowOf S R P k b, unitOf S R P k b) := by
  obtain ⟨m0, m1, u0, u1, t0, t1, ut, f1⟩ := rows_in h k0 k1
  obtain ⟨r0, r1, a0, a1⟩ := of_decide_eq_true hb
  have hd := Int.mul_tdiv_add_tmod (wrap64 (b - Pl.fst S R k)) (Pl.step R P k)
  change (Pl.step R P k : Int) * rowOf S R P k b + unitOf S R P k b = _ at hd
  obtain ⟨r, hr⟩ := Int.eq_ofNat_of_zero_le r0
  obtain ⟨a, ha⟩ := Int.eq_ofNat_of_zero_le a0
  rw [hr] at r1 hd ⊢
  rw [ha] at a1 hd ⊢
  obtain ⟨hl, hc⟩ := Pl.lies k0 k1 (show r < Pl.many S k by omega) (show a < Pl.units R P k by omega)
  have hall := Pl.all_le h
  have hn : b = ((Pl.fst S R k + r * Pl.step R P k + a : Nat) : Int) := by
    have e : (Pl.step R P k : Int) * (r : Int) = ((r * Pl.step R P k : Nat) : Int) := by rw [Int.natCast_mul, Int.mul_comm]
    rw [e] at hd
    generalize r * Pl.step R P k = x at *
    unfold wrap64 at hd
    omega
  subst hn
  unfold whatI
  rw [if_pos ⟨by omega, by omega⟩, Int.toNat_natCast, hc]
theorem what_no (h : Pl.Right S R P) {b : Int} (hb : ∀ i, i < 8 → hasB S R P (kindAt i) (rowOf S R P (kindAt i) b) (unitOf S R P (kindAt i) b) = false) : whatI S R P b = (0, 0, 0) := by
  unfold whatI
  by_cases hi : 0 ≤ b ∧ b < (Pl.all S R P : Int)
  · exfalso
    obtain ⟨n, rfl⟩ := Int.eq_ofNat_of_zero_le hi.1
    obtain ⟨⟨k, r, a⟩, hc⟩ : ∃ x, Pl.cell S R P n = x := ⟨_, rfl⟩
    obtain ⟨k0, k1, hr, ha, hn⟩ := Pl.has (show n < Pl.all S R P by omega) hc
    obtain ⟨i, hi8, hk⟩ := kindAt_all k0 k1
    have hf := hb i hi8
    rw [hk] at hf
    obtain ⟨m0, m1, u0, u1, t0, t1, ut, f1⟩ := rows_in h k0 k1
    have hall := Pl.all_le h
    have hw : wrap64 ((n : Int) - Pl.fst S R k) = ((r * Pl.step R P k + a : Nat) : Int) := by
      generalize r * Pl.step R P k = x at *
      unfold wrap64
      omega
    obtain ⟨d1, d2⟩ := Pl.dm (d := Pl.step R P k) (g := r) (i := a) (by omega)
    have e1 : rowOf S R P k n = (r : Int) := by
      unfold rowOf
      rw [hw, Int.tdiv_eq_ediv_of_nonneg (by omega), ← Int.natCast_ediv, d1]
    have e2 : unitOf S R P k n = (a : Int) := by
      unfold unitOf
      rw [hw, Int.tmod_eq_emod_of_nonneg (by omega), ← Int.natCast_emod, d2]
    rw [e1, e2] at hf
    unfold hasB at hf
    have := of_decide_eq_false hf
    omega
  · rw [if_neg hi]
set_option maxRecDepth 100000 in
set_option maxHeartbeats 1600000 in
theorem what_any (h : Pl.Right S R P) (b : Int) (b0 : -9223372036854775808 ≤ b) (b1 : b ≤ 9223372036854775807) (w : World) :
    Calls Try.prog 7 #[shapeV S R P, .int .i64 b] w fun e w' => e = .returned (.tuple #[.int .i64 (whatI S R P b).1, .int .i64 (whatI S R P b).2.1, .int .i64 (whatI S R P b).2.2]) ∧ Below w.heap.size w w' := by
  have HX := Lib.hid (Boxed.start w (S : Int) (R : Int) (P : Int))
  have hR := right_of h
  go_enter Try.func7, Try.ntmps7
  go_wp2_with (first | (go_at_call 9; refine (right_any (S : Int) (R : Int) (P : Int) _).mono ?_; rw [hR]; rintro e w1 ⟨rfl, hb⟩; have HX1 := Lib.hid (HX.out.below hb); clear hb; obtain ⟨d0, d1, d2⟩ := HX1.out.cells) | (go_at_call 29; refine (kinds_any _).mono ?_; rintro e w2 ⟨rfl, hb⟩; have HX2 := Lib.hid (HX1.out.below hb); clear hb d0 d1 d2))
  go_loopg [16] 8 (fun g x wx => ∃ i : Nat, i + g = 8 ∧ x = .int .i64 (i : Int) ∧ Boxed w wx (S : Int) (R : Int) (P : Int) ∧ Hid (∀ j, j < i → hasB S R P (kindAt j) (rowOf S R P (kindAt j) b) (unitOf S R P (kindAt j) b) = false))
  case atStart => exact ⟨0, rfl, rfl, HX2.out, Lib.hid (fun j hj => absurd hj (Nat.not_lt_zero j))⟩
  case round =>
    obtain ⟨i, hi, rfl, hB, hN⟩ := hrel
    have HB := Lib.hid hB
    obtain ⟨q0, q1, q2⟩ := hB.cells
    clear hB
    by_cases hl : (i : Int) < 8
    · have hix := kinds_index (show i < 8 by omega)
      obtain ⟨k0, k1⟩ := kindAt_in (show i < 8 by omega)
      obtain ⟨hv, hhv⟩ : ∃ hv, hasB S R P (kindAt i) (rowOf S R P (kindAt i) b) (unitOf S R P (kindAt i) b) = hv := ⟨_, rfl⟩
      have Hhv := Lib.hid hhv
      obtain ⟨k, hk⟩ : ∃ k, kindAt i = k := ⟨_, rfl⟩
      rw [hk] at hix k0 k1 hhv
      have HR := Lib.hid (rowsOf_any h k k0 k1)
      have HP := Lib.hid (place_any h k k0 k1 b)
      change Hid (∀ w, Calls Try.prog 31 #[rowsV S R P k, .int .i64 b] w fun e w' => e = .returned (.tuple #[.int .i64 (rowOf S R P k b), .int .i64 (unitOf S R P k b)]) ∧ Below w.heap.size w w') at HP
      have HH := Lib.hid (has_any h k k0 k1 (rowOf S R P k b) (unitOf S R P k b))
      have HY := Lib.hid (what_yes h k0 k1 b0 b1)
      rw [hhv] at HY HH
      clear hk k0 k1 hhv
      generalize rowOf S R P k b = ro at *
      generalize unitOf S R P k b = un at *
      obtain ⟨rv0, rv1, rv2, rv3, hrv⟩ : ∃ x0 x1 x2 x3 : Int, rowsV S R P k = .agg #[.int .i64 x0, .int .i64 x1, .int .i64 x2, .int .i64 x3] := ⟨_, _, _, _, rfl⟩
      rw [hrv] at HR HP HH
      clear hrv
      cases hv
      all_goals go_wp2_with (first | (go_at_call 30; refine (HR.out _).mono ?_; rintro e w3 ⟨rfl, hb⟩; have HX3 := Lib.hid (HB.out.below hb); clear hb q0 q1 q2; obtain ⟨c0, c1, c2, c3⟩ := rows4_cells w3 (.int .i64 rv0) (.int .i64 rv1) (.int .i64 rv2) (.int .i64 rv3) 40) | (go_at_call 31; refine (HP.out _).mono ?_; rintro e w4 ⟨rfl, hb⟩; have HX4 := Lib.hid ((HX3.out.alloc _).below hb); have hr4 := (BlockIs.made w3 _ _).below hb (by simp); clear c0 c1 c2 c3; obtain ⟨c0, c1, c2, c3⟩ := hr4.four; clear hb hr4) | (go_at_call 32; refine (HH.out _).mono ?_; rintro e w5 ⟨rfl, hb⟩; have HX5 := Lib.hid (HX4.out.below hb); clear hb c0 c1 c2 c3))
      · go_roundg (gk - 1)
        case measure => omega
        case rel => exact ⟨i + 1, by omega, rfl, HX5.out, Lib.hid (fun j hj => by
          rcases (show j < i ∨ j = i by omega) with h1 | rfl
          · exact hN.out j h1
          · exact Hhv.out)⟩
      · go_ret3
        exact ⟨by rw [HY.out trivial]; rfl, HX5.out.bl⟩
    · obtain rfl : i = 8 := by omega
      have HW := Lib.hid (what_no h hN.out)
      go_wp2_with fail
      go_ret3
      exact ⟨by rw [HW.out]; rfl, HB.out.bl⟩
end
end Go.Proofs.Ytapejjlnicmfiaa
