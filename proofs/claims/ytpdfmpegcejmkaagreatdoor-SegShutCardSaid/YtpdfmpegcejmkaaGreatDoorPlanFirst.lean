/- Where units lie, as plain numbers: what lies in block n, and the block of each unit; each is the other's way back. -/
/- plan's tests of numbers: whether all parts are what they may be; whether a shape is right. -/
/- plan.First; a call's own copy of a shape. -/
import Derived.Test.YtpdfmpegcejmkaaGreatDoorKitBlock
namespace Go.Proofs.YtpdfmpegcejmkaaGreatDoor
namespace Pl
/-- A right shape's numbers. -/
structure Right (S R P : Nat) : Prop where
  s0 : 2 ≤ S
  s1 : S ≤ 16
  r0 : 1 ≤ R
  r1 : R ≤ 32
  p0 : 1 ≤ P
  p1 : P ≤ 48
/-- How many blocks there are. -/
def all (S R P : Nat) : Nat := 6 + S * (R + 2) + 2 * (P + 1)
/-- What lies in block n. -/
def cell (S R P n : Nat) : Nat × Nat × Nat :=
  if n < 6 then (1 + n / 2, 0, n % 2)
  else if n < 6 + S * (R + 2) then
    (if (n - 6) % (R + 2) = 0 then (4, (n - 6) / (R + 2), 0) else if (n - 6) % (R + 2) ≤ R then (5, (n - 6) / (R + 2), (n - 6) % (R + 2) - 1) else (6, (n - 6) / (R + 2), 0))
  else
    (if (n - (6 + S * (R + 2))) % (P + 1) = 0 then (8, (n - (6 + S * (R + 2))) / (P + 1), 0) else (7, (n - (6 + S * (R + 2))) / (P + 1), (n - (6 + S * (R + 2))) % (P + 1) - 1))
def fst (S R : Nat) : Nat → Nat
  | 1 => 0 | 2 => 2 | 3 => 4 | 4 => 6 | 5 => 7 | 6 => 7 + R | 8 => 6 + S * (R + 2) | _ => 7 + S * (R + 2)
def many (S : Nat) : Nat → Nat
  | 1 => 1 | 2 => 1 | 3 => 1 | 4 => S | 5 => S | 6 => S | _ => 2
def step (R P : Nat) : Nat → Nat
  | 1 => 2 | 2 => 2 | 3 => 2 | 4 => R + 2 | 5 => R + 2 | 6 => R + 2 | _ => P + 1
def units (R P : Nat) : Nat → Nat
  | 1 => 2 | 2 => 2 | 3 => 2 | 5 => R | 7 => P | _ => 1
theorem kinds {k : Nat} (h0 : 1 ≤ k) (h1 : k ≤ 8) : k = 1 ∨ k = 2 ∨ k = 3 ∨ k = 4 ∨ k = 5 ∨ k = 6 ∨ k = 7 ∨ k = 8 := by omega
theorem mul_le {a b c : Nat} (h : a < b) : a * c + c ≤ b * c := by
  have := Nat.mul_le_mul_right c (show a + 1 ≤ b from h)
  rw [Nat.add_mul, Nat.one_mul] at this
  exact this
theorem dm {d g i : Nat} (h : i < d) : (g * d + i) / d = g ∧ (g * d + i) % d = i := by
  have hd : 0 < d := by omega
  rw [Nat.mul_comm g d]
  exact ⟨by rw [Nat.mul_add_div hd, Nat.div_eq_of_lt h]; rfl, by rw [Nat.mul_add_mod, Nat.mod_eq_of_lt h]⟩
theorem cell_small {S R P n : Nat} (h : n < 6) : cell S R P n = (1 + n / 2, 0, n % 2) := by unfold cell; rw [if_pos h]
theorem cell_seg {S R P g i : Nat} (hg : g < S) (hi : i < R + 2) :
    6 + g * (R + 2) + i < 6 + S * (R + 2) ∧ cell S R P (6 + g * (R + 2) + i) = if i = 0 then (4, g, 0) else if i ≤ R then (5, g, i - 1) else (6, g, 0) := by
  have h1 := mul_le (c := R + 2) hg
  obtain ⟨h2, h3⟩ := dm (g := g) hi
  have e : 6 + g * (R + 2) + i - 6 = g * (R + 2) + i := by omega
  refine ⟨by omega, ?_⟩
  unfold cell
  rw [if_neg (by omega), if_pos (by omega), e, h2, h3]
theorem cell_area {S R P a i : Nat} (ha : a < 2) (hi : i < P + 1) :
    6 + S * (R + 2) + a * (P + 1) + i < all S R P ∧ cell S R P (6 + S * (R + 2) + a * (P + 1) + i) = if i = 0 then (8, a, 0) else (7, a, i - 1) := by
  have h1 := mul_le (c := P + 1) ha
  obtain ⟨h2, h3⟩ := dm (g := a) hi
  have e : 6 + S * (R + 2) + a * (P + 1) + i - (6 + S * (R + 2)) = a * (P + 1) + i := by omega
  refine ⟨by unfold all; omega, ?_⟩
  unfold cell
  rw [if_neg (by omega), if_neg (by omega), e, h2, h3]
/-- Each unit lies in a block. -/
theorem lies {S R P k r a : Nat} (h0 : 1 ≤ k) (h1 : k ≤ 8) (hr : r < many S k) (ha : a < units R P k) :
    fst S R k + r * step R P k + a < all S R P ∧ cell S R P (fst S R k + r * step R P k + a) = (k, r, a) := by
  rcases kinds h0 h1 with rfl | rfl | rfl | rfl | rfl | rfl | rfl | rfl <;> simp only [fst, many, step, units] at hr ha ⊢
  · obtain rfl : r = 0 := by omega
    refine ⟨by unfold all; omega, ?_⟩
    rw [cell_small (by omega)]
    rcases (show a = 0 ∨ a = 1 by omega) with rfl | rfl <;> rfl
  · obtain rfl : r = 0 := by omega
    refine ⟨by unfold all; omega, ?_⟩
    rw [cell_small (by omega)]
    rcases (show a = 0 ∨ a = 1 by omega) with rfl | rfl <;> rfl
  · obtain rfl : r = 0 := by omega
    refine ⟨by unfold all; omega, ?_⟩
    rw [cell_small (by omega)]
    rcases (show a = 0 ∨ a = 1 by omega) with rfl | rfl <;> rfl
  · obtain rfl : a = 0 := by omega
    obtain ⟨h2, h3⟩ := cell_seg (P := P) hr (show 0 < R + 2 by omega)
    exact ⟨by unfold all; omega, by rw [h3, if_pos rfl]⟩
  · obtain ⟨h2, h3⟩ := cell_seg (P := P) hr (show a + 1 < R + 2 by omega)
    rw [show 7 + r * (R + 2) + a = 6 + r * (R + 2) + (a + 1) by omega]
    exact ⟨by unfold all; omega, by rw [h3, if_neg (by omega), if_pos (by omega)]; rfl⟩
  · obtain rfl : a = 0 := by omega
    obtain ⟨h2, h3⟩ := cell_seg (P := P) hr (show R + 1 < R + 2 by omega)
    rw [show 7 + R + r * (R + 2) + 0 = 6 + r * (R + 2) + (R + 1) by omega]
    exact ⟨by unfold all; omega, by rw [h3, if_neg (by omega), if_neg (by omega)]⟩
  · obtain ⟨h2, h3⟩ := cell_area (S := S) (R := R) hr (show a + 1 < P + 1 by omega)
    rw [show 7 + S * (R + 2) + r * (P + 1) + a = 6 + S * (R + 2) + r * (P + 1) + (a + 1) by omega]
    exact ⟨h2, by rw [h3, if_neg (by omega)]; rfl⟩
  · obtain rfl : a = 0 := by omega
    obtain ⟨h2, h3⟩ := cell_area (S := S) (R := R) hr (show 0 < P + 1 by omega)
    exact ⟨h2, by rw [h3, if_pos rfl]⟩
/-- Each block is of a unit. -/
theorem has {S R P n k r a : Nat} (hn : n < all S R P) (hc : cell S R P n = (k, r, a)) :
    1 ≤ k ∧ k ≤ 8 ∧ r < many S k ∧ a < units R P k ∧ n = fst S R k + r * step R P k + a := by
  unfold all at hn
  by_cases h6 : n < 6
  · rw [cell_small h6] at hc
    simp only [Prod.mk.injEq] at hc
    obtain ⟨rfl, rfl, rfl⟩ := hc
    rcases (show n / 2 = 0 ∨ n / 2 = 1 ∨ n / 2 = 2 by omega) with h | h | h <;> rw [h] <;> simp only [fst, many, step, units] <;> omega
  · by_cases hs : n < 6 + S * (R + 2)
    · obtain ⟨m, rfl⟩ : ∃ m, n = 6 + m := ⟨n - 6, by omega⟩
      have hd : 0 < R + 2 := by omega
      have hi := Nat.mod_lt m hd
      have hg : m / (R + 2) < S := (Nat.div_lt_iff_lt_mul hd).2 (by omega)
      have e : m = m / (R + 2) * (R + 2) + m % (R + 2) := by rw [Nat.mul_comm]; exact (Nat.div_add_mod m (R + 2)).symm
      revert hi hg e hc
      generalize m / (R + 2) = g
      generalize m % (R + 2) = i
      intro hc hi hg e
      subst e
      have h3 := (cell_seg (P := P) hg hi).2
      rw [show 6 + (g * (R + 2) + i) = 6 + g * (R + 2) + i by omega] at hc ⊢
      rw [h3] at hc
      split at hc
      · simp only [Prod.mk.injEq] at hc
        obtain ⟨rfl, rfl, rfl⟩ := hc
        simp only [fst, many, step, units]; omega
      · split at hc <;> simp only [Prod.mk.injEq] at hc <;> obtain ⟨rfl, rfl, rfl⟩ := hc <;> simp only [fst, many, step, units] <;> omega
    · obtain ⟨m, rfl⟩ : ∃ m, n = 6 + S * (R + 2) + m := ⟨n - (6 + S * (R + 2)), by omega⟩
      have hd : 0 < P + 1 := by omega
      have hi := Nat.mod_lt m hd
      have hg : m / (P + 1) < 2 := (Nat.div_lt_iff_lt_mul hd).2 (by omega)
      have e : m = m / (P + 1) * (P + 1) + m % (P + 1) := by rw [Nat.mul_comm]; exact (Nat.div_add_mod m (P + 1)).symm
      revert hi hg e hc
      generalize m / (P + 1) = g
      generalize m % (P + 1) = i
      intro hc hi hg e
      subst e
      have h3 := (cell_area (S := S) (R := R) hg hi).2
      rw [show 6 + S * (R + 2) + (g * (P + 1) + i) = 6 + S * (R + 2) + g * (P + 1) + i by omega] at hc ⊢
      rw [h3] at hc
      split at hc <;> simp only [Prod.mk.injEq] at hc <;> obtain ⟨rfl, rfl, rfl⟩ := hc <;> simp only [fst, many, step, units] <;> omega
theorem all_le {S R P : Nat} (h : Right S R P) : all S R P ≤ 648 := by
  have h1 : S * (R + 2) ≤ 16 * 34 := Nat.mul_le_mul h.s1 (by have := h.r1; omega)
  have := h.p1
  unfold all; omega
end Pl
end Go.Proofs.YtpdfmpegcejmkaaGreatDoor
namespace Go.Proofs.YtpdfmpegcejmkaaGreatDoor
open Go.RowKit
/-- A part: a number, the least it may be, the greatest. -/
abbrev PartI := Int × Int × Int
def PartI.cells (p : PartI) : List Value := [.int .i64 p.1, .int .i64 p.2.1, .int .i64 p.2.2]
def PartI.okB (p : PartI) : Bool := decide (p.2.1 ≤ p.1) && decide (p.1 ≤ p.2.2)
theorem PartI.ok_true {p : PartI} (h1 : p.2.1 ≤ p.1) (h2 : p.1 ≤ p.2.2) : p.okB = true := by unfold PartI.okB; simp [h1, h2]
theorem PartI.ok_false {p : PartI} (h : ¬(p.2.1 ≤ p.1 ∧ p.1 ≤ p.2.2)) : p.okB = false := by
  unfold PartI.okB
  rw [← Bool.decide_and]
  exact decide_eq_false h
theorem all_false {ps : List PartI} {i : Nat} {p : PartI} (h : ps[i]? = some p) (hp : p.okB = false) : ps.all PartI.okB = false := by
  rw [List.all_eq_false]
  exact ⟨p, List.mem_of_getElem? h, by rw [hp]; decide⟩
theorem all_next {ps : List PartI} {i : Nat} {p : PartI} (h : (ps.take i).all PartI.okB = true) (hi : ps[i]? = some p) (hp : p.okB = true) : (ps.take (i + 1)).all PartI.okB = true := by
  rw [List.take_add_one, hi, List.all_append, h]
  simp [hp]
/-- Parts in a row of their own. -/
def PartsIn (w : World) (b : Nat) (ps : List PartI) : Prop := ∀ i p, ps[i]? = some p → w.cell? ⟨b, i * 3, none⟩ = some (.int .i64 p.1) ∧ w.cell? ⟨b, i * 3 + 1, none⟩ = some (.int .i64 p.2.1) ∧ w.cell? ⟨b, i * 3 + 2, none⟩ = some (.int .i64 p.2.2)
theorem PartsIn.below {w w' : World} {b : Nat} {ps : List PartI} (h : PartsIn w b ps) (hb : Below w.heap.size w w') : PartsIn w' b ps := fun i p hp => by
  obtain ⟨h0, h1, h2⟩ := h i p hp
  have hlt : b < w.heap.size := World.block_lt_of_cell? _ _ h0
  exact ⟨(hb.cell (p := ⟨b, i * 3, none⟩) hlt).trans h0, (hb.cell (p := ⟨b, i * 3 + 1, none⟩) hlt).trans h1, (hb.cell (p := ⟨b, i * 3 + 2, none⟩) hlt).trans h2⟩
set_option maxRecDepth 100000 in
set_option maxHeartbeats 800000 in
theorem within_any (ps : List PartI) (b : Nat) (w : World) (hp : PartsIn w b ps) (hn : ps.length ≤ 1000) :
    Calls Tryz.prog 67 #[.slice (some ⟨b, 0, none⟩) ps.length ps.length] w fun e w' => e = .returned (.bool (ps.all PartI.okB)) ∧ Below w.heap.size w w' := by
  go_enter Tryz.func67, Tryz.ntmps67
  go_wp2
  go_loopg [10] ps.length (fun g a wx => ∃ i : Nat, i + g = ps.length ∧ a = .int .i64 (i : Int) ∧ Below w.heap.size w wx ∧ Hid ((ps.take i).all PartI.okB = true))
  case atStart => exact ⟨0, by omega, rfl, Below.refl _ _, Lib.hid rfl⟩
  case round =>
    obtain ⟨i, hi, rfl, hB, hA⟩ := hrel
    by_cases hl : i < ps.length
    · have hp1 : ps[i]? = some ps[i] := List.getElem?_eq_getElem hl
      obtain ⟨k0, k1, k2⟩ := (hp.below hB) i _ hp1
      obtain ⟨⟨n, lo, hi'⟩, hpe⟩ : ∃ q, ps[i] = q := ⟨_, rfl⟩
      rw [hpe] at k0 k1 k2
      have He := Lib.hid (hp1.trans (by rw [hpe]))
      have HB := Lib.hid hB
      clear hp hp1 hpe hB
      go_wp2_with fail
      obtain ⟨r0, r1, r2⟩ := row3_cells wr (.int .i64 n) (.int .i64 lo) (.int .i64 hi') 101
      go_region
      all_goals by_cases hlo : n < lo
      all_goals by_cases hhi : hi' < n
      all_goals go_wp2_with fail
      all_goals have hB2 := drewN_below (HB.out.alloc (HB.out.size) (.cells #[.int .i64 n, .int .i64 lo, .int .i64 hi'] 101)) 1
      iterate 3
        · go_ret
          exact ⟨ret_bool (all_false He.out (PartI.ok_false (by show ¬(lo ≤ n ∧ n ≤ hi'); omega))).symm, hB2⟩
      · go_roundg (gk - 1)
        case measure => omega
        case rel => exact ⟨i + 1, by omega, rfl, hB2, Lib.hid (all_next hA.out He.out (PartI.ok_true (show lo ≤ n by omega) (show n ≤ hi' by omega)))⟩
    · obtain rfl : i = ps.length := by omega
      go_wp2_with fail
      go_ret
      exact ⟨ret_bool (by have := hA.out; rw [List.take_length] at this; exact this.symm), hB⟩
/-- A row of parts, as a call lays it. -/
theorem partsIn_lit (w : World) (ps : List PartI) (t : TypeId) : PartsIn (w.alloc (.cells (ps.flatMap PartI.cells).toArray t)) w.heap.size ps := by
  intro i p hp
  have key : ∀ (ps : List PartI) (i : Nat) (p : PartI), ps[i]? = some p → (ps.flatMap PartI.cells)[i * 3]? = some (.int .i64 p.1) ∧ (ps.flatMap PartI.cells)[i * 3 + 1]? = some (.int .i64 p.2.1) ∧ (ps.flatMap PartI.cells)[i * 3 + 2]? = some (.int .i64 p.2.2) := by
    intro ps
    induction ps with
    | nil => intro i p h; simp at h
    | cons q qs ih =>
      intro i p h
      have hl : q.cells.length = 3 := rfl
      rw [List.flatMap_cons]
      match i, h with
      | 0, h =>
        obtain rfl : q = p := by simpa using h
        exact ⟨rfl, rfl, rfl⟩
      | i + 1, h =>
        obtain ⟨h0, h1, h2⟩ := ih i p (by simpa using h)
        refine ⟨?_, ?_, ?_⟩
        · rw [List.getElem?_append_right (by omega), hl, show (i + 1) * 3 - 3 = i * 3 by omega]; exact h0
        · rw [List.getElem?_append_right (by omega), hl, show (i + 1) * 3 + 1 - 3 = i * 3 + 1 by omega]; exact h1
        · rw [List.getElem?_append_right (by omega), hl, show (i + 1) * 3 + 2 - 3 = i * 3 + 2 by omega]; exact h2
  obtain ⟨h0, h1, h2⟩ := key ps i p hp
  refine ⟨?_, ?_, ?_⟩ <;> rw [World.cell?_alloc_new, List.getElem?_toArray] <;> assumption
def shapeB (a b c : Int) : Bool := [((a, 2, 16) : PartI), (b, 1, 32), (c, 1, 48)].all PartI.okB
set_option maxRecDepth 100000 in
set_option maxHeartbeats 800000 in
theorem shape_any (a b c : Int) (w : World) :
    Calls Tryz.prog 66 #[.agg #[.int .i64 a, .int .i64 b, .int .i64 c]] w fun e w' => e = .returned (.bool (shapeB a b c)) ∧ Below w.heap.size w w' := by
  go_enter Tryz.func66, Tryz.ntmps66
  have hP := partsIn_lit (w.alloc (.cells #[.int .i64 a, .int .i64 b, .int .i64 c] 23)) [((a, 2, 16) : PartI), (b, 1, 32), (c, 1, 48)] 101
  rw [World.size_alloc] at hP
  have hb := (below_new w (.cells #[.int .i64 a, .int .i64 b, .int .i64 c] 23)).alloc (by simp) (.cells #[.int .i64 a, .int .i64 2, .int .i64 16, .int .i64 b, .int .i64 1, .int .i64 32, .int .i64 c, .int .i64 1, .int .i64 48] 101)
  have HP := Lib.hid hP
  have HB := Lib.hid hb
  clear hP hb
  go_wp2_with (go_at_call 67; refine (within_any [((a, 2, 16) : PartI), (b, 1, 32), (c, 1, 48)] (w.heap.size + 1) _ HP.out (by simp)).mono ?_; rintro e w' ⟨rfl, hB⟩)
  go_ret
  exact ⟨ret_bool (by unfold shapeB; simp only [List.all_cons, List.all_nil, Bool.and_true]), HB.out.trans (hB.mono HB.out.size)⟩
theorem right_shape {a b c : Int} (h : shapeB a b c = true) : ∃ S R P : Nat, a = S ∧ b = R ∧ c = P ∧ Pl.Right S R P := by
  unfold shapeB PartI.okB at h
  simp only [List.all_cons, List.all_nil, Bool.and_true, Bool.and_eq_true, decide_eq_true_eq] at h
  obtain ⟨⟨h0, h1⟩, ⟨h2, h3⟩, h4, h5⟩ := h
  obtain ⟨S, rfl⟩ := Int.eq_ofNat_of_zero_le (show 0 ≤ a by omega)
  obtain ⟨R, rfl⟩ := Int.eq_ofNat_of_zero_le (show 0 ≤ b by omega)
  obtain ⟨P, rfl⟩ := Int.eq_ofNat_of_zero_le (show 0 ≤ c by omega)
  exact ⟨S, R, P, rfl, rfl, rfl, by omega, by omega, by omega, by omega, by omega, by omega⟩
theorem right_of {S R P : Nat} (h : Pl.Right S R P) : shapeB S R P = true := by
  obtain ⟨h0, h1, h2, h3, h4, h5⟩ := h
  unfold shapeB PartI.okB
  simp only [List.all_cons, List.all_nil, Bool.and_true, Bool.and_eq_true, decide_eq_true_eq]
  omega
set_option maxRecDepth 100000 in
set_option maxHeartbeats 800000 in
theorem rshape_any (a b c : Int) (w : World) :
    Calls Tryz.prog 78 #[.agg #[.int .i64 a, .int .i64 b, .int .i64 c]] w fun e w' => e = .returned (.bool (shapeB a b c)) ∧ Below w.heap.size w w' := by
  have he : shapeB a b c = decide (2 ≤ a ∧ a ≤ 16 ∧ 1 ≤ b ∧ b ≤ 32 ∧ 1 ≤ c ∧ c ≤ 48) := by
    unfold shapeB PartI.okB
    simp only [List.all_cons, List.all_nil, Bool.and_true, ← Bool.decide_and, decide_eq_decide]
    omega
  have HE := Lib.hid he
  clear he
  have HB := Lib.hid (below_new w (.cells #[.int .i64 a, .int .i64 b, .int .i64 c] 23))
  rcases (show a < 2 ∨ (2 ≤ a ∧ 16 < a) ∨ (2 ≤ a ∧ a ≤ 16 ∧ b < 1) ∨ (2 ≤ a ∧ a ≤ 16 ∧ 1 ≤ b ∧ 32 < b) ∨ (2 ≤ a ∧ a ≤ 16 ∧ 1 ≤ b ∧ b ≤ 32 ∧ c < 1) ∨ (2 ≤ a ∧ a ≤ 16 ∧ 1 ≤ b ∧ b ≤ 32 ∧ 1 ≤ c ∧ 48 < c) ∨ (2 ≤ a ∧ a ≤ 16 ∧ 1 ≤ b ∧ b ≤ 32 ∧ 1 ≤ c ∧ c ≤ 48) by omega) with h | ⟨h0, h⟩ | ⟨h0, h1, h⟩ | ⟨h0, h1, h2, h⟩ | ⟨h0, h1, h2, h3, h⟩ | ⟨h0, h1, h2, h3, h4, h⟩ | ⟨h0, h1, h2, h3, h4, h⟩
  all_goals go_enter Tryz.func78, Tryz.ntmps78
  all_goals go_wp2_with fail
  all_goals go_ret
  all_goals exact ⟨ret_bool (by rw [HE.out]; first | exact (decide_eq_true (by omega)).symm | exact (decide_eq_false (by omega)).symm | exact decide_eq_decide.2 (by omega)), HB.out⟩
abbrev shapeV (S R P : Nat) : Value := .agg #[.int .i64 (S : Int), .int .i64 (R : Int), .int .i64 (P : Int)]
end Go.Proofs.YtpdfmpegcejmkaaGreatDoor
namespace Go.Proofs.YtpdfmpegcejmkaaGreatDoor
open Go.RowKit
/-- What a call keeps of a shape that it was handed: its own copy. -/
structure Boxed (w w1 : World) (a b c : Int) : Prop where
  bl : Below w.heap.size w w1
  box : BlockIs w1 w.heap.size 23 #[.int .i64 a, .int .i64 b, .int .i64 c]
section
variable {w w1 w2 : World} {a b c : Int}
theorem Boxed.start (w : World) (a b c : Int) : Boxed w (w.alloc (.cells #[.int .i64 a, .int .i64 b, .int .i64 c] 23)) a b c := ⟨below_new w _, BlockIs.made w _ _⟩
theorem Boxed.below (h : Boxed w w1 a b c) (hb : Below w1.heap.size w1 w2) : Boxed w w2 a b c := ⟨h.bl.trans (hb.mono h.bl.size), h.box.below hb h.box.lt⟩
theorem Boxed.alloc (h : Boxed w w1 a b c) (o : Obj) : Boxed w (w1.alloc o) a b c := h.below (below_new _ _)
theorem Boxed.drew (h : Boxed w w1 a b c) : Boxed w w1.drew a b c := ⟨h.bl.drew, h.box⟩
theorem Boxed.cells (h : Boxed w w1 a b c) : w1.cell? ⟨w.heap.size, 0, none⟩ = some (.int .i64 a) ∧ w1.cell? ⟨w.heap.size, 1, none⟩ = some (.int .i64 b) ∧ w1.cell? ⟨w.heap.size, 2, none⟩ = some (.int .i64 c) :=
  ⟨h.box.cell 0, h.box.cell 1, h.box.cell 2⟩
end
section
variable {a b c : Int}
set_option maxRecDepth 100000 in
set_option maxHeartbeats 800000 in
theorem first_not (h : shapeB a b c = false) (g : Int) (w : World) :
    Calls Tryz.prog 32 #[.agg #[.int .i64 a, .int .i64 b, .int .i64 c], .int .i64 g] w fun e w' => e = .returned (.int .i64 (-1)) ∧ Below w.heap.size w w' := by
  have HX := Lib.hid (Boxed.start w a b c)
  go_enter Tryz.func32, Tryz.ntmps32
  go_wp2_with (go_at_call 66; refine (shape_any a b c _).mono ?_; rw [h]; rintro e w1 ⟨rfl, hb⟩)
  go_ret
  exact ⟨rfl, (HX.out.below hb).bl⟩
end
def fstN (R : Nat) (g : Int) : Int := if 0 ≤ g ∧ g ≤ 1099511627776 then g * (R : Int) + 1 else -1
section
variable {S R P : Nat}
theorem one_part (x l u : Int) : [((x, l, u) : PartI)].all PartI.okB = decide (l ≤ x ∧ x ≤ u) := by
  unfold PartI.okB
  simp only [List.all_cons, List.all_nil, Bool.and_true, ← Bool.decide_and]
set_option maxRecDepth 100000 in
set_option maxHeartbeats 1600000 in
theorem firstN_any (h : Pl.Right S R P) (i : Int) (w : World) :
    Calls Tryz.prog 32 #[shapeV S R P, .int .i64 i] w fun e w' => e = .returned (.int .i64 (fstN R i)) ∧ Below w.heap.size w w' := by
  have HX := Lib.hid (Boxed.start w (S : Int) (R : Int) (P : Int))
  have hr := h.r0
  have hr1 := h.r1
  have hR := right_of h
  have hE := Lib.hid (show fstN R i = if 0 ≤ i ∧ i ≤ 1099511627776 then i * (R : Int) + 1 else -1 from rfl)
  by_cases hi : 0 ≤ i ∧ i ≤ 1099511627776
  · have hd : decide (0 ≤ i ∧ i ≤ 1099511627776) = true := decide_eq_true hi
    have hm0 : 0 ≤ i * (R : Int) := Int.mul_nonneg hi.1 (by omega)
    have hm1 : i * (R : Int) ≤ 1099511627776 * 32 := Int.mul_le_mul hi.2 (by omega) (by omega) (by omega)
    go_enter Tryz.func32, Tryz.ntmps32
    go_wp2_with (first | (go_at_call 66; refine (shape_any (S : Int) (R : Int) (P : Int) _).mono ?_; rw [hR]; rintro e w1 ⟨rfl, hb⟩; have HX1 := Lib.hid (HX.out.below hb); clear hb; obtain ⟨d0, d1, d2⟩ := HX1.out.cells) | (go_at_call 67; refine (within_any [((i, 0, 1099511627776) : PartI)] _ _ (partsIn_lit _ [((i, 0, 1099511627776) : PartI)] _) (by simp)).mono ?_; rw [one_part, hd]; rintro e w2 ⟨rfl, hb⟩; have HX2 := Lib.hid ((HX1.out.alloc _).below hb); clear hb d0 d1 d2; obtain ⟨d0, d1, d2⟩ := HX2.out.cells))
    go_ret
    exact ⟨ret_int (by rw [hE.out, if_pos hi]), HX2.out.bl⟩
  · have hd : decide (0 ≤ i ∧ i ≤ 1099511627776) = false := decide_eq_false hi
    go_enter Tryz.func32, Tryz.ntmps32
    go_wp2_with (first | (go_at_call 66; refine (shape_any (S : Int) (R : Int) (P : Int) _).mono ?_; rw [hR]; rintro e w1 ⟨rfl, hb⟩; have HX1 := Lib.hid (HX.out.below hb); clear hb; obtain ⟨d0, d1, d2⟩ := HX1.out.cells) | (go_at_call 67; refine (within_any [((i, 0, 1099511627776) : PartI)] _ _ (partsIn_lit _ [((i, 0, 1099511627776) : PartI)] _) (by simp)).mono ?_; rw [one_part, hd]; rintro e w2 ⟨rfl, hb⟩; have HX2 := Lib.hid ((HX1.out.alloc _).below hb); clear hb d0 d1 d2; obtain ⟨d0, d1, d2⟩ := HX2.out.cells))
    go_ret
    exact ⟨ret_int (by rw [hE.out, if_neg hi]), HX2.out.bl⟩
end
end Go.Proofs.YtpdfmpegcejmkaaGreatDoor
