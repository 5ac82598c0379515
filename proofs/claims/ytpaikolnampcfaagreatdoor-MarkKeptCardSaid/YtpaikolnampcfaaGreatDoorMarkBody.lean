/- A mark's body, read field by field: plain mathematics. -/
import Derived.Test.YtpaikolnampcfaaGreatDoorMarkV
namespace Go.Proofs.YtpaikolnampcfaaGreatDoor
open Mx
/-- A field is read, or that ends it. -/
theorem field_cases (bs : List Int) (w : Int) (k : Nat) (hw : w = 1 ∨ w = 6) : (fieldR bs w (.ok k) = (0, .bad k false) ∧ ((bs.length : Int) < k + w ∨ top w < unle ((bs.drop k).take w.toNat))) ∨
    (fieldR bs w (.ok k) = (unle ((bs.drop k).take w.toNat), .ok (k + w.toNat)) ∧ (k : Int) + w ≤ bs.length ∧ unle ((bs.drop k).take w.toNat) ≤ top w) := by
  have ht : ¬ top w < 0 := by rcases hw with rfl | rfl <;> decide
  by_cases h1 : w > (bs.length : Int) - k
  · refine .inl ⟨?_, .inl (by omega)⟩
    simp only [fieldR]
    rw [if_pos (.inr h1)]
  · by_cases h2 : unle ((bs.drop k).take w.toNat) > top w
    · refine .inl ⟨?_, .inr h2⟩
      simp only [fieldR]
      rw [if_neg (by rintro (h | h); exact ht h; exact h1 h), if_pos h2]
    · refine .inr ⟨?_, by omega, by omega⟩
      simp only [fieldR]
      rw [if_neg (by rintro (h | h); exact ht h; exact h1 h), if_neg h2]
/-- What a body's reader tells: an error, or as much as there must be. -/
theorem mark_cases (ver : Int) (bs : List Int) :
    (∃ r1 r2 r3 r4 : RSt, ∃ n1 n2 n3 n4 : Int, ∃ p : Nat, fieldR bs 6 (.ok 0) = (n1, r1) ∧ fieldR bs 6 r1 = (n2, r2) ∧ fieldR bs 1 r2 = (n3, r3) ∧ fieldR bs 6 r3 = (n4, r4) ∧ r4 = .bad p false ∧ partedK ver bs = (noMark, 4)) ∨
    (fieldR bs 6 (.ok 0) = ((bodyK ver bs).idx, .ok 6) ∧ fieldR bs 6 (.ok 6) = ((bodyK ver bs).term, .ok 12) ∧ fieldR bs 1 (.ok 12) = ((bodyK ver bs).kind, .ok 13) ∧ fieldR bs 6 (.ok 13) = ((bodyK ver bs).void, .ok 19) ∧ 19 ≤ bs.length) := by
  have t6 : top 6 = 1099511627776 := rfl
  have t1 : top 1 = 255 := rfl
  have no_len : bs.length < 19 → partedK ver bs = (noMark, 4) := fun h => by
    unfold partedK
    rw [if_neg (by rintro ⟨h1, _⟩; omega)]
  have no_val : ¬ (bodyK ver bs).right → partedK ver bs = (noMark, 4) := fun h => by
    unfold partedK
    rw [if_neg (by rintro ⟨_, h1⟩; exact h h1)]
  have e1 : (bs.drop 0).take 6 = bs.take 6 := by rw [List.drop_zero]
  rcases field_cases bs 6 0 (.inr rfl) with ⟨f1, c1⟩ | ⟨f1, l1, b1⟩
  · refine .inl ⟨_, .bad 0 false, .bad 0 false, .bad 0 false, _, 0, 0, 0, 0, f1, rfl, rfl, rfl, rfl, ?_⟩
    rcases c1 with c1 | c1
    · exact no_len (by omega)
    · refine no_val fun h => ?_
      have h2 : unle (bs.take 6) ≤ 1099511627776 := (known_bd h.2.2).1.2
      rw [t6, show (6 : Int).toNat = 6 from rfl, e1] at c1
      omega
  · rw [show (6 : Int).toNat = 6 from rfl, e1] at f1
    rcases field_cases bs 6 6 (.inr rfl) with ⟨f2, c2⟩ | ⟨f2, l2, b2⟩
    · refine .inl ⟨.ok 6, .bad 6 false, .bad 6 false, .bad 6 false, _, 0, 0, 0, 6, f1, f2, rfl, rfl, rfl, ?_⟩
      rcases c2 with c2 | c2
      · exact no_len (by omega)
      · refine no_val fun h => ?_
        have h2 : unle ((bs.drop 6).take 6) ≤ 1099511627776 := (known_bd h.2.2).2.1.2
        rw [t6, show (6 : Int).toNat = 6 from rfl] at c2
        omega
    · rw [show (6 : Int).toNat = 6 from rfl] at f2
      rcases field_cases bs 1 12 (.inl rfl) with ⟨f3, c3⟩ | ⟨f3, l3, b3⟩
      · refine .inl ⟨.ok 6, .ok 12, .bad 12 false, .bad 12 false, _, _, 0, 0, 12, f1, f2, f3, rfl, rfl, ?_⟩
        rcases c3 with c3 | c3
        · exact no_len (by omega)
        · refine no_val fun h => ?_
          have h2 : unle ((bs.drop 12).take 1) ≤ 3 := (known_bd h.2.2).2.2.2
          rw [t1, show (1 : Int).toNat = 1 from rfl] at c3
          omega
      · rw [show (1 : Int).toNat = 1 from rfl] at f3
        rcases field_cases bs 6 13 (.inr rfl) with ⟨f4, c4⟩ | ⟨f4, l4, b4⟩
        · refine .inl ⟨.ok 6, .ok 12, .ok 13, .bad 13 false, _, _, _, 0, 13, f1, f2, f3, f4, rfl, ?_⟩
          rcases c4 with c4 | c4
          · exact no_len (by omega)
          · refine no_val fun h => ?_
            have h2 : unle ((bs.drop 13).take 6) ≤ 1099511627776 := h.2.1.2
            rw [t6, show (6 : Int).toNat = 6 from rfl] at c4
            omega
        · rw [show (6 : Int).toNat = 6 from rfl] at f4
          exact .inr ⟨f1, f2, f3, f4, by omega⟩
end Go.Proofs.YtpaikolnampcfaaGreatDoor
