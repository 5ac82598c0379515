/- plan's rows: whether a row has a unit, which block it has, where a block would lie. -/
import Derived.Test.YtapejjlnicmfiaaPlanRows
namespace Go.Proofs.Ytapejjlnicmfiaa
open Go.RowKit
def hasB (S R P k : Nat) (row at' : Int) : Bool := decide (0 ≤ row ∧ row < (Pl.many S k : Int) ∧ 0 ≤ at' ∧ at' < (Pl.units R P k : Int))
def blockI (S R P k : Nat) (row at' : Int) : Int := if hasB S R P k row at' = true then (Pl.fst S R k : Int) + row * (Pl.step R P k : Int) + at' else -1
structure RowsIn (S R P k : Nat) : Prop where
  m0 : 1 ≤ Pl.many S k
  m1 : Pl.many S k ≤ 16
  u0 : 1 ≤ Pl.units R P k
  u1 : Pl.units R P k ≤ 48
  t0 : 2 ≤ Pl.step R P k
  t1 : Pl.step R P k ≤ 49
  ut : Pl.units R P k ≤ Pl.step R P k
  f1 : Pl.fst S R k ≤ 600
theorem rows_in {S R P k : Nat} (h : Pl.Right S R P) (k0 : 1 ≤ k) (k1 : k ≤ 8) : RowsIn S R P k := by
  obtain ⟨T, M, hT, _, _, hm⟩ := segs_parts h
  obtain ⟨h0, h1, h2, h3, h4, h5⟩ := h
  rcases Pl.kinds k0 k1 with rfl | rfl | rfl | rfl | rfl | rfl | rfl | rfl <;> refine ⟨?_, ?_, ?_, ?_, ?_, ?_, ?_, ?_⟩ <;> simp only [Pl.many, Pl.units, Pl.step, Pl.fst, hT] <;> omega
theorem hasB_parts {S R P k : Nat} (row at' : Int) : [((row, 0, (Pl.many S k : Int) - 1) : PartI), (at', 0, (Pl.units R P k : Int) - 1)].all PartI.okB = hasB S R P k row at' := by
  unfold hasB PartI.okB
  simp only [List.all_cons, List.all_nil, Bool.and_true, ← Bool.decide_and, decide_eq_decide]
  omega
set_option maxRecDepth 100000 in
set_option maxHeartbeats 1600000 in
theorem has_any {S R P : Nat} (h : Pl.Right S R P) (k : Nat) (k0 : 1 ≤ k) (k1 : k ≤ 8) (row at' : Int) (w : World) :
    Calls Try.prog 32 #[rowsV S R P k, .int .i64 row, .int .i64 at'] w fun e w' => e = .returned (.bool (hasB S R P k row at')) ∧ Below w.heap.size w w' := by
  have hI := rows_in h k0 k1
  rw [← hasB_parts]
  obtain ⟨m0, m1, u0, u1, _, _, _, _⟩ := hI
  unfold rowsV
  generalize Pl.many S k = m at *
  generalize Pl.units R P k = u at *
  generalize Pl.step R P k = st at *
  generalize Pl.fst S R k = f at *
  have hP := partsIn_lit (w.alloc (.cells #[.int .i64 (f : Int), .int .i64 (m : Int), .int .i64 (st : Int), .int .i64 (u : Int)] 40)) [((row, 0, (m : Int) - 1) : PartI), (at', 0, (u : Int) - 1)] 51
  rw [World.size_alloc] at hP
  have HP := Lib.hid hP
  have HB := Lib.hid ((below_new w (.cells #[.int .i64 (f : Int), .int .i64 (m : Int), .int .i64 (st : Int), .int .i64 (u : Int)] 40)).alloc (by simp) (.cells ([((row, 0, (m : Int) - 1) : PartI), (at', 0, (u : Int) - 1)].flatMap PartI.cells).toArray 51))
  clear hP
  go_enter Try.func32, Try.ntmps32
  go_wp2_with (go_at_call 34; refine (within_any [((row, 0, (m : Int) - 1) : PartI), (at', 0, (u : Int) - 1)] (w.heap.size + 1) _ HP.out (by simp)).mono ?_; rintro e w' ⟨rfl, hB⟩)
  go_ret
  exact ⟨ret_bool (by simp only [List.all_cons, List.all_nil, Bool.and_true]), HB.out.trans (hB.mono HB.out.size)⟩
set_option maxRecDepth 100000 in
set_option maxHeartbeats 1600000 in
theorem block_any {S R P : Nat} (h : Pl.Right S R P) (k : Nat) (k0 : 1 ≤ k) (k1 : k ≤ 8) (row at' : Int) (w : World) :
    Calls Try.prog 42 #[rowsV S R P k, .int .i64 row, .int .i64 at'] w fun e w' => e = .returned (.int .i64 (blockI S R P k row at')) ∧ Below w.heap.size w w' := by
  obtain ⟨m0, m1, u0, u1, t0, t1, _, f1⟩ := rows_in h k0 k1
  have HC := Lib.hid (has_any h k k0 k1 row at')
  have hE : blockI S R P k row at' = if hasB S R P k row at' = true then (Pl.fst S R k : Int) + row * (Pl.step R P k : Int) + at' else -1 := rfl
  have hH : hasB S R P k row at' = decide (0 ≤ row ∧ row < (Pl.many S k : Int) ∧ 0 ≤ at' ∧ at' < (Pl.units R P k : Int)) := rfl
  unfold rowsV at HC ⊢
  generalize hasB S R P k row at' = hb at *
  generalize blockI S R P k row at' = bi at *
  generalize Pl.many S k = m at *
  generalize Pl.units R P k = u at *
  generalize Pl.step R P k = st at *
  generalize Pl.fst S R k = f at *
  have HB := Lib.hid (below_new w (.cells #[.int .i64 (f : Int), .int .i64 (m : Int), .int .i64 (st : Int), .int .i64 (u : Int)] 40))
  have HB4 := Lib.hid (row4_cells w (.int .i64 (f : Int)) (.int .i64 (m : Int)) (.int .i64 (st : Int)) (.int .i64 (u : Int)) 40)
  have hc4 : ∀ w3, Below (w.alloc (.cells #[.int .i64 (f : Int), .int .i64 (m : Int), .int .i64 (st : Int), .int .i64 (u : Int)] 40)).heap.size (w.alloc (.cells #[.int .i64 (f : Int), .int .i64 (m : Int), .int .i64 (st : Int), .int .i64 (u : Int)] 40)) w3 → w3.cell? ⟨w.heap.size, 0, none⟩ = some (.int .i64 (f : Int)) ∧ w3.cell? ⟨w.heap.size, 2, none⟩ = some (.int .i64 (st : Int)) :=
    fun w3 hb => ⟨(hb.cell (p := ⟨w.heap.size, 0, none⟩) (by simp)).trans (HB4.out 0 _ rfl), (hb.cell (p := ⟨w.heap.size, 2, none⟩) (by simp)).trans (HB4.out 2 _ rfl)⟩
  have Hc4 := Lib.hid hc4
  clear hc4
  cases hb with
  | false =>
    simp only [Bool.false_eq_true, if_false] at hE
    subst hE
    clear hH
    go_enter Try.func42, Try.ntmps42
    go_wp2_with (go_at_call 32; refine (HC.out _).mono ?_; rintro e w1 ⟨rfl, hB⟩)
    go_ret
    exact ⟨rfl, HB.out.trans (hB.mono HB.out.size)⟩
  | true =>
    obtain ⟨r0, r1, a0, a1⟩ := of_decide_eq_true hH.symm
    obtain ⟨r, rfl⟩ := Int.eq_ofNat_of_zero_le r0
    obtain ⟨a, rfl⟩ := Int.eq_ofNat_of_zero_le a0
    have hm1 : r * st ≤ 16 * 49 := Nat.mul_le_mul (by omega) t1
    have hp0 : (0 : Int) ≤ (r : Int) * (st : Int) := by rw [← Int.natCast_mul]; omega
    have hp1 : (r : Int) * (st : Int) ≤ 784 := by rw [← Int.natCast_mul]; omega
    clear hm1
    simp only [if_true] at hE
    clear hH
    go_enter Try.func42, Try.ntmps42
    go_wp2_with (go_at_call 32; refine (HC.out _).mono ?_; rintro e w1 ⟨rfl, hB⟩; obtain ⟨c0, c2⟩ := Hc4.out _ hB)
    go_ret
    exact ⟨ret_int (by rw [hE]), HB.out.trans (hB.mono HB.out.size)⟩
set_option maxRecDepth 100000 in
set_option maxHeartbeats 1600000 in
theorem place_any {S R P : Nat} (h : Pl.Right S R P) (k : Nat) (k0 : 1 ≤ k) (k1 : k ≤ 8) (b : Int) (w : World) :
    Calls Try.prog 31 #[rowsV S R P k, .int .i64 b] w fun e w' => e = .returned (.tuple #[.int .i64 ((wrap64 (b - Pl.fst S R k)).tdiv (Pl.step R P k)), .int .i64 ((wrap64 (b - Pl.fst S R k)).tmod (Pl.step R P k))]) ∧ Below w.heap.size w w' := by
  obtain ⟨m0, m1, u0, u1, t0, t1, _, f1⟩ := rows_in h k0 k1
  unfold rowsV
  generalize Pl.many S k = m at *
  generalize Pl.units R P k = u at *
  generalize Pl.step R P k = st at *
  generalize Pl.fst S R k = f at *
  have HB := Lib.hid (below_new w (.cells #[.int .i64 (f : Int), .int .i64 (m : Int), .int .i64 (st : Int), .int .i64 (u : Int)] 40))
  obtain ⟨n, hn⟩ : ∃ n, wrap64 (b - f) = n := ⟨_, rfl⟩
  have hr : -9223372036854775808 ≤ n ∧ n ≤ 9223372036854775807 := by rw [← hn]; unfold wrap64; omega
  go_enter Try.func31, Try.ntmps31
  go_wp2_with fail
  go_region
  all_goals go_wp2_with fail
  all_goals go_ret2
  all_goals exact ⟨by rw [hn]; rfl, HB.out.drew⟩
end Go.Proofs.Ytapejjlnicmfiaa
