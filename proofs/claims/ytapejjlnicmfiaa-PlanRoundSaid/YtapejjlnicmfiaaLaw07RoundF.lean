/- PlanRound's numbers: which indices lie in one block; a record between its head and its foot; the first indices of segment numbers. -/
import Derived.Test.YtapejjlnicmfiaaPlanCallsS
namespace Go.Proofs.Ytapejjlnicmfiaa
open Go.RowKit
/-- Two numbers' places in a round are one just if they are a multiple of it apart. -/
theorem round_place {S R a b : Nat} (hR : 0 < R) : (a / R % S = b / R % S ∧ a % R = b % R) ↔ Int.tmod ((a : Int) - (b : Int)) ((S : Int) * (R : Int)) = 0 := by
  have h1 : ∀ n : Nat, n % (R * S) = n % R + R * (n / R % S) := fun n => Nat.mod_mul
  have h2 : (a / R % S = b / R % S ∧ a % R = b % R) ↔ a % (R * S) = b % (R * S) := by
    rw [h1 a, h1 b]
    constructor
    · rintro ⟨e1, e2⟩; rw [e1, e2]
    · intro e
      have ha := Nat.mod_lt a hR
      have hb := Nat.mod_lt b hR
      have e2 : a % R = b % R := by
        have := congrArg (· % R) e
        simp only [Nat.add_mul_mod_self_left, Nat.mod_mod] at this
        exact this
      have e3 : R * (a / R % S) = R * (b / R % S) := by omega
      exact ⟨Nat.eq_of_mul_eq_mul_left hR e3, e2⟩
  rw [h2, ← Int.dvd_iff_tmod_eq_zero]
  rw [Int.dvd_iff_emod_eq_zero, ← Int.emod_eq_emod_iff_emod_sub_eq_zero]
  have e : (S : Int) * (R : Int) = ((R * S : Nat) : Int) := by rw [Int.natCast_mul, Int.mul_comm]
  rw [e, ← Int.natCast_emod, ← Int.natCast_emod]
  omega
structure RoundF (S R P : Nat) (i k g : Int) : Prop where
  one : recI S R P i = recI S R P k ↔ Int.tmod (i - k) ((S : Int) * (R : Int)) = 0
  head : inSegI S R P 4 g 0 < recI S R P i
  foot : recI S R P i < inSegI S R P 6 g 0
  f0 : fstN R g ≤ i
  f1 : i < fstN R (g + 1)
  nx : fstN R (g + 1) = fstN R g + (R : Int)
  zero : g = 0 ↔ fstN R g = 1
  g0 : 0 ≤ g
  g1 : g ≤ 1099511627775
theorem rec_val {S R P : Nat} (h : Pl.Right S R P) {a : Nat} (ha : a ≤ 1099511627775) : recI S R P ((a : Int) + 1) = ((7 + a / R % S * (R + 2) + a % R : Nat) : Int) := by
  obtain ⟨h0, h1, h2, h3, h4, h5⟩ := h
  have hm := Nat.mod_lt a (show 0 < R by omega)
  have hs := Nat.mod_lt (a / R) (show 0 < S by omega)
  unfold recI
  rw [if_pos ⟨by omega, by omega⟩, show (a : Int) + 1 - 1 = (a : Int) by omega, ← Int.natCast_ediv, ← Int.natCast_emod, ← Int.natCast_emod]
  unfold blockI hasB
  rw [if_pos (decide_eq_true ⟨by omega, by simp only [Pl.many]; omega, by omega, by simp only [Pl.units]; omega⟩)]
  simp only [Pl.fst, Pl.step]
  rw [← Int.natCast_mul]; omega
theorem round_facts {S R P : Nat} (h : Pl.Right S R P) {i k : Int} (i0 : 1 ≤ i) (i1 : i ≤ 1099511627776) (k0 : 1 ≤ k) (k1 : k ≤ 1099511627776) : RoundF S R P i k (segN R i) := by
  obtain ⟨a, ha⟩ := Int.eq_ofNat_of_zero_le (show 0 ≤ i - 1 by omega)
  obtain ⟨b, hb⟩ := Int.eq_ofNat_of_zero_le (show 0 ≤ k - 1 by omega)
  obtain rfl : i = (a : Int) + 1 := by omega
  obtain rfl : k = (b : Int) + 1 := by omega
  have hA : a ≤ 1099511627775 := by omega
  have hB : b ≤ 1099511627775 := by omega
  have ra := rec_val h hA
  have rb := rec_val h hB
  have hR := h.r0
  have hS := h.s0
  have hS1 := h.s1
  have hR1 := h.r1
  have hma := Nat.mod_lt a (show 0 < R by omega)
  have hmb := Nat.mod_lt b (show 0 < R by omega)
  have hs := Nat.mod_lt (a / R) (show 0 < S by omega)
  have hs2 := Nat.mod_lt (b / R) (show 0 < S by omega)
  have hg : segN R ((a : Int) + 1) = ((a / R : Nat) : Int) := by
    unfold segN
    rw [if_pos ⟨by omega, by omega⟩, show (a : Int) + 1 - 1 = (a : Int) by omega, ← Int.natCast_ediv]
  have hgl : a / R ≤ a := Nat.div_le_self a R
  have hnn : (0 : Int) ≤ ((a / R : Nat) : Int) := Int.natCast_nonneg _
  have hmax : ((a / R : Nat) : Int) ≤ 1099511627775 := by omega
  have hdm : a / R * R + a % R = a := by rw [Nat.mul_comm]; exact Nat.div_add_mod a R
  have hseg : ∀ q x : Nat, (q = 4 ∧ x = 6) ∨ (q = 6 ∧ x = 7 + R) → inSegI S R P q ((a / R : Nat) : Int) 0 = ((x + a / R % S * (R + 2) : Nat) : Int) := by
    intro q x hq
    unfold inSegI
    rw [if_pos ⟨by omega, by omega⟩, ← Int.natCast_emod]
    unfold blockI hasB
    rcases hq with ⟨rfl, rfl⟩ | ⟨rfl, rfl⟩
    · rw [if_pos (decide_eq_true ⟨by omega, by simp only [Pl.many]; omega, by omega, by simp only [Pl.units]; omega⟩)]
      simp only [Pl.fst, Pl.step]
      rw [← Int.natCast_mul]; omega
    · rw [if_pos (decide_eq_true ⟨by omega, by simp only [Pl.many]; omega, by omega, by simp only [Pl.units]; omega⟩)]
      simp only [Pl.fst, Pl.step]
      rw [← Int.natCast_mul]; omega
  have hf0 : fstN R ((a / R : Nat) : Int) = ((a / R * R + 1 : Nat) : Int) := by
    unfold fstN
    rw [if_pos ⟨by omega, by omega⟩, ← Int.natCast_mul]; omega
  have hf1 : fstN R (((a / R : Nat) : Int) + 1) = ((a / R * R + R + 1 : Nat) : Int) := by
    unfold fstN
    rw [if_pos ⟨by omega, by omega⟩, Int.add_mul, ← Int.natCast_mul]; omega
  rw [hg]
  refine ⟨?_, ?_, ?_, ?_, ?_, ?_, ?_, hnn, hmax⟩
  · rw [ra, rb]
    clear ra rb hf0 hf1 hseg hg
    rw [show (a : Int) + 1 - ((b : Int) + 1) = (a : Int) - (b : Int) by omega, ← round_place (S := S) (R := R) (by omega)]
    constructor
    · intro e
      have e : a / R % S * (R + 2) + a % R = b / R % S * (R + 2) + b % R := by omega
      obtain ⟨d1, d2⟩ := Pl.dm (d := R + 2) (g := a / R % S) (i := a % R) (by omega)
      obtain ⟨d3, d4⟩ := Pl.dm (d := R + 2) (g := b / R % S) (i := b % R) (by omega)
      rw [e] at d1 d2
      exact ⟨d1.symm.trans d3, d2.symm.trans d4⟩
    · rintro ⟨e1, e2⟩; rw [e1, e2]
  · rw [hseg 4 6 (.inl ⟨rfl, rfl⟩), ra]
    clear ra rb hf0 hf1 hseg hg
    omega
  · rw [hseg 6 (7 + R) (.inr ⟨rfl, rfl⟩), ra]
    clear ra rb hf0 hf1 hseg hg
    omega
  · rw [hf0]
    clear ra rb hf0 hf1 hseg hg
    omega
  · rw [hf1]
    clear ra rb hf0 hf1 hseg hg
    omega
  · rw [hf0, hf1]
    clear ra rb hf0 hf1 hseg hg
    omega
  · rw [hf0]
    clear ra rb hf0 hf1 hseg hg
    constructor
    · intro e
      have e : a / R = 0 := by omega
      rw [e, Nat.zero_mul]; rfl
    · intro e
      have e : a / R * R = 0 := by omega
      rcases Nat.mul_eq_zero.1 e with e | e <;> omega
end Go.Proofs.Ytapejjlnicmfiaa
