/- Where units lie, as plain numbers: what lies in block n, and the block of each unit; each is the other's way back. -/
namespace Go.Proofs.Ytapejjlnicmfiaa
namespace Pl
/-- A right shape's numbers. -/
structure Right (S R P : Nat) : Prop where
  s0 : 2 ≤ S
  s1 : S ≤ 16
  r0 : 1 ≤ R
  r1 : R ≤ 32
  p0 : 1 ≤ P
  p1 : P ≤ 48
/-- How many blocks there are. -/
def all (S R P : Nat) : Nat := 6 + S * (R + 2) + 2 * (P + 1)
/-- What lies in block n. -/
def cell (S R P n : Nat) : Nat × Nat × Nat :=
  if n < 6 then (1 + n / 2, 0, n % 2)
  else if n < 6 + S * (R + 2) then
    (if (n - 6) % (R + 2) = 0 then (4, (n - 6) / (R + 2), 0) else if (n - 6) % (R + 2) ≤ R then (5, (n - 6) / (R + 2), (n - 6) % (R + 2) - 1) else (6, (n - 6) / (R + 2), 0))
  else
    (if (n - (6 + S * (R + 2))) % (P + 1) = 0 then (8, (n - (6 + S * (R + 2))) / (P + 1), 0) else (7, (n - (6 + S * (R + 2))) / (P + 1), (n - (6 + S * (R + 2))) % (P + 1) - 1))
def fst (S R : Nat) : Nat → Nat
  | 1 => 0 | 2 => 2 | 3 => 4 | 4 => 6 | 5 => 7 | 6 => 7 + R | 8 => 6 + S * (R + 2) | _ => 7 + S * (R + 2)
def many (S : Nat) : Nat → Nat
  | 1 => 1 | 2 => 1 | 3 => 1 | 4 => S | 5 => S | 6 => S | _ => 2
def step (R P : Nat) : Nat → Nat
  | 1 => 2 | 2 => 2 | 3 => 2 | 4 => R + 2 | 5 => R + 2 | 6 => R + 2 | _ => P + 1
def units (R P : Nat) : Nat → Nat
  | 1 => 2 | 2 => 2 | 3 => 2 | 5 => R | 7 => P | _ => 1
theorem kinds {k : Nat} (h0 : 1 ≤ k) (h1 : k ≤ 8) : k = 1 ∨ k = 2 ∨ k = 3 ∨ k = 4 ∨ k = 5 ∨ k = 6 ∨ k = 7 ∨ k = 8 := by omega
theorem mul_le {a b c : Nat} (h : a < b) : a * c + c ≤ b * c := by
  have := Nat.mul_le_mul_right c (show a + 1 ≤ b from h)
  rw [Nat.add_mul, Nat.one_mul] at this
  exact this
theorem dm {d g i : Nat} (h : i < d) : (g * d + i) / d = g ∧ (g * d + i) % d = i := by
  have hd : 0 < d := by omega
  rw [Nat.mul_comm g d]
  exact ⟨by rw [Nat.mul_add_div hd, Nat.div_eq_of_lt h]; rfl, by rw [Nat.mul_add_mod, Nat.mod_eq_of_lt h]⟩
theorem cell_small {S R P n : Nat} (h : n < 6) : cell S R P n = (1 + n / 2, 0, n % 2) := by unfold cell; rw [if_pos h]
theorem cell_seg {S R P g i : Nat} (hg : g < S) (hi : i < R + 2) :
    6 + g * (R + 2) + i < 6 + S * (R + 2) ∧ cell S R P (6 + g * (R + 2) + i) = if i = 0 then (4, g, 0) else if i ≤ R then (5, g, i - 1) else (6, g, 0) := by
  have h1 := mul_le (c := R + 2) hg
  obtain ⟨h2, h3⟩ := dm (g := g) hi
  have e : 6 + g * (R + 2) + i - 6 = g * (R + 2) + i := by omega
  refine ⟨by omega, ?_⟩
  unfold cell
  rw [if_neg (by omega), if_pos (by omega), e, h2, h3]
theorem cell_area {S R P a i : Nat} (ha : a < 2) (hi : i < P + 1) :
    6 + S * (R + 2) + a * (P + 1) + i < all S R P ∧ cell S R P (6 + S * (R + 2) + a * (P + 1) + i) = if i = 0 then (8, a, 0) else (7, a, i - 1) := by
  have h1 := mul_le (c := P + 1) ha
  obtain ⟨h2, h3⟩ := dm (g := a) hi
  have e : 6 + S * (R + 2) + a * (P + 1) + i - (6 + S * (R + 2)) = a * (P + 1) + i := by omega
  refine ⟨by unfold all; omega, ?_⟩
  unfold cell
  rw [if_neg (by omega), if_neg (by omega), e, h2, h3]
/-- Each unit lies in a block. -/
theorem lies {S R P k r a : Nat} (h0 : 1 ≤ k) (h1 : k ≤ 8) (hr : r < many S k) (ha : a < units R P k) :
    fst S R k + r * step R P k + a < all S R P ∧ cell S R P (fst S R k + r * step R P k + a) = (k, r, a) := by
  rcases kinds h0 h1 with rfl | rfl | rfl | rfl | rfl | rfl | rfl | rfl <;> simp only [fst, many, step, units] at hr ha ⊢
  · obtain rfl : r = 0 := by omega
    refine ⟨by unfold all; omega, ?_⟩
    rw [cell_small (by omega)]
    rcases (show a = 0 ∨ a = 1 by omega) with rfl | rfl <;> rfl
  · obtain rfl : r = 0 := by omega
    refine ⟨by unfold all; omega, ?_⟩
    rw [cell_small (by omega)]
    rcases (show a = 0 ∨ a = 1 by omega) with rfl | rfl <;> rfl
  · obtain rfl : r = 0 := by omega
    refine ⟨by unfold all; omega, ?_⟩
    rw [cell_small (by omega)]
    rcases (show a = 0 ∨ a = 1 by omega) with rfl | rfl <;> rfl
  · obtain rfl : a = 0 := by omega
    obtain ⟨h2, h3⟩ := cell_seg (P := P) hr (show 0 < R + 2 by omega)
    exact ⟨by unfold all; omega, by rw [h3, if_pos rfl]⟩
  · obtain ⟨h2, h3⟩ := cell_seg (P := P) hr (show a + 1 < R + 2 by omega)
    rw [show 7 + r * (R + 2) + a = 6 + r * (R + 2) + (a + 1) by omega]
    exact ⟨by unfold all; omega, by rw [h3, if_neg (by omega), if_pos (by omega)]; rfl⟩
  · obtain rfl : a = 0 := by omega
    obtain ⟨h2, h3⟩ := cell_seg (P := P) hr (show R + 1 < R + 2 by omega)
    rw [show 7 + R + r * (R + 2) + 0 = 6 + r * (R + 2) + (R + 1) by omega]
    exact ⟨by unfold all; omega, by rw [h3, if_neg (by omega), if_neg (by omega)]⟩
  · obtain ⟨h2, h3⟩ := cell_area (S := S) (R := R) hr (show a + 1 < P + 1 by omega)
    rw [show 7 + S * (R + 2) + r * (P + 1) + a = 6 + S * (R + 2) + r * (P + 1) + (a + 1) by omega]
    exact ⟨h2, by rw [h3, if_neg (by omega)]; rfl⟩
  · obtain rfl : a = 0 := by omega
    obtain ⟨h2, h3⟩ := cell_area (S := S) (R := R) hr (show 0 < P + 1 by omega)
    exact ⟨h2, by rw [h3, if_pos rfl]⟩
/-- Each block is of a unit. -/
theorem has {S R P n k r a : Nat} (hn : n < all S R P) (hc : cell S R P n = (k, r, a)) :
    1 ≤ k ∧ k ≤ 8 ∧ r < many S k ∧ a < units R P k ∧ n = fst S R k + r * step R P k + a := by
  unfold all at hn
  by_cases h6 : n < 6
  · rw [cell_small h6] at hc
    simp only [Prod.mk.injEq] at hc
    obtain ⟨rfl, rfl, rfl⟩ := hc
    rcases (show n / 2 = 0 ∨ n / 2 = 1 ∨ n / 2 = 2 by omega) with h | h | h <;> rw [h] <;> simp only [fst, many, step, units] <;> omega
  · by_cases hs : n < 6 + S * (R + 2)
    · obtain ⟨m, rfl⟩ : ∃ m, n = 6 + m := ⟨n - 6, by omega⟩
      have hd : 0 < R + 2 := by omega
      have hi := Nat.mod_lt m hd
      have hg : m / (R + 2) < S := (Nat.div_lt_iff_lt_mul hd).2 (by omega)
      have e : m = m / (R + 2) * (R + 2) + m % (R + 2) := by rw [Nat.mul_comm]; exact (Nat.div_add_mod m (R + 2)).symm
      revert hi hg e hc
      generalize m / (R + 2) = g
      generalize m % (R + 2) = i
      intro hc hi hg e
      subst e
      have h3 := (cell_seg (P := P) hg hi).2
      rw [show 6 + (g * (R + 2) + i) = 6 + g * (R + 2) + i by omega] at hc ⊢
      rw [h3] at hc
      split at hc
      · simp only [Prod.mk.injEq] at hc
        obtain ⟨rfl, rfl, rfl⟩ := hc
        simp only [fst, many, step, units]; omega
      · split at hc <;> simp only [Prod.mk.injEq] at hc <;> obtain ⟨rfl, rfl, rfl⟩ := hc <;> simp only [fst, many, step, units] <;> omega
    · obtain ⟨m, rfl⟩ : ∃ m, n = 6 + S * (R + 2) + m := ⟨n - (6 + S * (R + 2)), by omega⟩
      have hd : 0 < P + 1 := by omega
      have hi := Nat.mod_lt m hd
      have hg : m / (P + 1) < 2 := (Nat.div_lt_iff_lt_mul hd).2 (by omega)
      have e : m = m / (P + 1) * (P + 1) + m % (P + 1) := by rw [Nat.mul_comm]; exact (Nat.div_add_mod m (P + 1)).symm
      revert hi hg e hc
      generalize m / (P + 1) = g
      generalize m % (P + 1) = i
      intro hc hi hg e
      subst e
      have h3 := (cell_area (S := S) (R := R) hg hi).2
      rw [show 6 + S * (R + 2) + (g * (P + 1) + i) = 6 + S * (R + 2) + g * (P + 1) + i by omega] at hc ⊢
      rw [h3] at hc
      split at hc <;> simp only [Prod.mk.injEq] at hc <;> obtain ⟨rfl, rfl, rfl⟩ := hc <;> simp only [fst, many, step, units] <;> omega
theorem all_le {S R P : Nat} (h : Right S R P) : all S R P ≤ 648 := by
  have h1 : S * (R + 2) ≤ 16 * 34 := Nat.mul_le_mul h.s1 (by have := h.r1; omega)
  have := h.p1
  unfold all; omega
end Pl
end Go.Proofs.Ytapejjlnicmfiaa
