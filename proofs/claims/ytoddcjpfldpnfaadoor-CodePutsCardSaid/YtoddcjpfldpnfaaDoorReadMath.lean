/- What is got is small: lists alone. -/
import Derived.Test.YtoddcjpfldpnfaaDoorReadEntry
import Derived.Test.YtoddcjpfldpnfaaDoorCodeMathB
namespace Go.Proofs.YtoddcjpfldpnfaaDoor
open Go.RowKit
theorem textR_mem (bs : List Int) (hb : ∀ z ∈ bs, 0 ≤ z ∧ z < 256) (most : Int) (s : RSt) : ∀ z ∈ (textR bs most s).1, 0 ≤ z ∧ z < 256 := by
  rw [textR_of]
  cases h : (countR bs 2 most 1 s).2 with
  | bad p l => intro z hz; cases hz
  | ok j => intro z hz; exact hb z (List.mem_of_mem_drop (List.mem_of_mem_take hz))
theorem rowR_nil (bs : List Int) (most : Int) (s : RSt) (p : Nat) (l : Bool) (h : (rowR bs most s).2 = .bad p l) : (rowR bs most s).1 = [] := by
  rw [rowR_of] at h ⊢
  cases hc : (countR bs 1 most 6 s).2 with
  | bad p' l' => rfl
  | ok j =>
    rw [hc] at h
    simp only at h ⊢
    cases hr : (runR bs (countR bs 1 most 6 s).1.toNat (.ok j)).2 with
    | bad p' l' => rfl
    | ok i => rw [hr] at h; cases h
theorem runR_bd (bs : List Int) (hb : ∀ z ∈ bs, 0 ≤ z ∧ z < 256) (k : Nat) (s : RSt) : ∀ y ∈ (runR bs k s).1, 0 ≤ y ∧ y ≤ 1099511627776 := by
  induction k with
  | zero => intro y hy; cases hy
  | succ k ih =>
    intro y hy
    rcases List.mem_append.1 hy with h | h
    · exact ih y h
    · obtain rfl := List.mem_singleton.1 h
      have := fieldR_bd bs hb 6 (runR bs k s).2
      have ht : top 6 = 1099511627776 := rfl
      omega
theorem rowR_bd (bs : List Int) (hb : ∀ z ∈ bs, 0 ≤ z ∧ z < 256) (most : Int) (s : RSt) : ∀ y ∈ (rowR bs most s).1, 0 ≤ y ∧ y ≤ 1099511627776 := by
  rw [rowR_of]
  cases hc : (countR bs 1 most 6 s).2 with
  | bad p l => intro y hy; cases hy
  | ok j =>
    simp only
    cases hr : (runR bs (countR bs 1 most 6 s).1.toNat (.ok j)).2 with
    | bad p l => intro y hy; cases hy
    | ok i => exact runR_bd bs hb _ _
theorem countR_top (bs : List Int) (hb : ∀ z ∈ bs, 0 ≤ z ∧ z < 256) (wd most each : Int) (ht : 0 ≤ top wd) (s : RSt) : (countR bs wd most each s).1 ≤ top wd := by
  cases s with
  | bad p l => exact ht
  | ok k =>
    have h0 := fieldR_bd bs hb wd (.ok k)
    cases hs : (fieldR bs wd (.ok k)).2 with
    | bad p l => rw [countR_bad bs wd most each _ p l hs]; exact ht
    | ok i =>
      rw [countR_ok bs wd most each k i hs]
      split
      · exact ht
      · split
        · exact ht
        · simp only; omega
theorem rowR_len (bs : List Int) (hb : ∀ z ∈ bs, 0 ≤ z ∧ z < 256) (most : Int) (s : RSt) : (rowR bs most s).1.length ≤ 255 := by
  rw [rowR_of]
  cases hc : (countR bs 1 most 6 s).2 with
  | bad p l => exact Nat.zero_le _
  | ok j =>
    simp only
    cases hr : (runR bs (countR bs 1 most 6 s).1.toNat (.ok j)).2 with
    | bad p l => exact Nat.zero_le _
    | ok i =>
      simp only [runR_len]
      have := countR_top bs hb 1 most 6 (by decide) s
      have ht : top 1 = 255 := rfl
      omega
theorem entryR_none (bs : List Int) (s : RSt) (p : Nat) (l : Bool) (h : (entryR bs s).2 = .bad p l) : (entryR bs s).1 = noEnt := by
  cases s with
  | bad p' l' => rfl
  | ok k =>
    rw [entryR_of] at h ⊢
    split at h
    · rfl
    · split at h
      · cases h
      · rename_i hr
        rw [if_neg hr]
theorem entryR_right (bs : List Int) (s : RSt) (j : Nat) (h : (entryR bs s).2 = .ok j) : rightB (entryR bs s).1 = true := by
  cases s with
  | bad p' l' => cases h
  | ok k =>
    rw [entryR_of] at h ⊢
    split at h
    · cases h
    · split at h
      · rename_i hr
        rw [if_pos hr]; exact hr
      · cases h
theorem entryR_bd (bs : List Int) (s : RSt) : 0 ≤ (entryR bs s).1.index ∧ (entryR bs s).1.index ≤ 1099511627776 ∧ 0 ≤ (entryR bs s).1.term ∧ (entryR bs s).1.term ≤ 1099511627776 ∧ 0 ≤ (entryR bs s).1.kind ∧ (entryR bs s).1.kind ≤ 3 ∧ (entryR bs s).1.body.length ≤ 200 := by
  cases h : (entryR bs s).2 with
  | bad p l => rw [entryR_none bs s p l h]; decide
  | ok j =>
    have := of_decide_eq_true (entryR_right bs s j h)
    omega
theorem entryR_mem (bs : List Int) (hb : ∀ z ∈ bs, 0 ≤ z ∧ z < 256) (s : RSt) : ∀ z ∈ (entryR bs s).1.body, 0 ≤ z ∧ z < 256 := by
  cases s with
  | bad p' l' => intro z hz; cases hz
  | ok k =>
    rw [entryR_of]
    split
    · intro z hz; cases hz
    · split
      · exact textR_mem bs hb _ _
      · intro z hz; cases hz
theorem own_none {w : World} {B : Nat} {e : TypeId} {size n cap : Nat} {X : Option Addr} {xs : List Value} (h : w.ownsRow B e size (.slice X n cap) n xs) : X = none → cap = 0 := by
  intro hX
  rcases h.2 with ⟨h', _⟩ | ⟨g, c, cur, h', _⟩
  · simp at h'; exact h'.2.2
  · subst hX; simp at h'
end Go.Proofs.YtoddcjpfldpnfaaDoor
