/- seg: a head's body that is read tells what the model tells. -/
import Derived.Test.YtpdfmpegcejmkaaGreatDoorSegAheadB
namespace Go.Proofs.YtpdfmpegcejmkaaGreatDoor
open Go.RowKit
theorem partedH_zero (f : Int) (xs : List Int) : (partedH f xs).2 = 0 ↔ xs.length = 13 ∧ aheadI (bodyH xs) f := by
  unfold partedH
  by_cases h : xs.length = 13 ∧ aheadI (bodyH xs) f
  · rw [if_pos h]; simp [h]
  · rw [if_neg h]; simp [h]
theorem ended_bad (xs : List Int) (p : Nat) (l : Bool) : endedB xs (.bad p l) = false := by
  unfold endedB errNo errCode
  cases l <;> simp
/-- What is read, and told. -/
theorem head_read (f : Int) (xs : List Int) : ((endedB xs (readS xs) = true ∧ aheadI (readH xs) f) ↔ (partedH f xs).2 = 0) ∧ ((partedH f xs).2 = 0 → readH xs = bodyH xs) := by
  rw [partedH_zero]
  have t6 : top 6 = 1099511627776 := rfl
  have t1 : top 1 = 255 := rfl
  have hC : xs.length = 13 ∧ aheadI (bodyH xs) f → (xs.length : Int) = 13 ∧ unle (xs.take 6) ≤ 1099511627776 ∧ unle ((xs.drop 6).take 6) ≤ 1099511627776 ∧ unle ((xs.drop 12).take 1) ≤ 3 := fun h => by
    obtain ⟨k1, k2, k3⟩ := known_bd h.2.1
    exact ⟨by omega, k1.2, k2.2, k3.2⟩
  unfold readH readS
  rcases fieldR_two xs 6 0 (by decide) with ⟨⟨p, l, e⟩, h⟩ | ⟨e, h1, h2⟩
  · have hn : ¬(xs.length = 13 ∧ aheadI (bodyH xs) f) := fun hc => by
      obtain ⟨c1, c2, _⟩ := hC hc
      rw [t6] at h
      simp only [List.drop_zero] at h
      rcases h with h | h
      · omega
      · have : unle (List.take (6 : Int).toNat xs) ≤ 1099511627776 := c2
        omega
    rw [e]
    simp only [fieldR_bad, ended_bad]
    exact ⟨⟨fun h => absurd h.1 (by decide), fun h => absurd h hn⟩, fun h => absurd h hn⟩
  · rw [e]
    simp only [Nat.zero_add]
    rcases fieldR_two xs 6 (6 : Int).toNat (by decide) with ⟨⟨p, l, e'⟩, h⟩ | ⟨e', h3, h4⟩
    · have hn : ¬(xs.length = 13 ∧ aheadI (bodyH xs) f) := fun hc => by
        obtain ⟨c1, _, c2, _⟩ := hC hc
        rw [t6] at h
        rcases h with h | h
        · have : ((6 : Int).toNat : Int) = 6 := rfl
          omega
        · have : unle (List.take (6 : Int).toNat (List.drop (6 : Int).toNat xs)) ≤ 1099511627776 := c2
          omega
      rw [e']
      simp only [fieldR_bad, ended_bad]
      exact ⟨⟨fun h => absurd h.1 (by decide), fun h => absurd h hn⟩, fun h => absurd h hn⟩
    · rw [e']
      simp only
      rcases fieldR_two xs 1 ((6 : Int).toNat + (6 : Int).toNat) (by decide) with ⟨⟨p, l, e2⟩, h⟩ | ⟨e2, h5, h6⟩
      · have hn : ¬(xs.length = 13 ∧ aheadI (bodyH xs) f) := fun hc => by
          obtain ⟨c1, _, _, c2⟩ := hC hc
          rw [t1] at h
          rcases h with h | h
          · have : (((6 : Int).toNat + (6 : Int).toNat : Nat) : Int) = 12 := rfl
            omega
          · have : unle (List.take (1 : Int).toNat (List.drop ((6 : Int).toNat + (6 : Int).toNat) xs)) ≤ 3 := c2
            omega
        rw [e2]
        simp only [ended_bad]
        exact ⟨⟨fun h => absurd h.1 (by decide), fun h => absurd h hn⟩, fun h => absurd h hn⟩
      · rw [e2]
        simp only
        have hb : (⟨unle (List.take (6 : Int).toNat (List.drop 0 xs)), unle (List.take (6 : Int).toNat (List.drop (6 : Int).toNat xs)), unle (List.take (1 : Int).toNat (List.drop ((6 : Int).toNat + (6 : Int).toNat) xs))⟩ : IdentI) = bodyH xs := rfl
        rw [hb]
        have he : endedB xs (.ok ((6 : Int).toNat + (6 : Int).toNat + (1 : Int).toNat)) = true ↔ xs.length = 13 := by
          show (decide ((0 : Int) = 0) && decide ((xs.length : Int) - (13 : Nat) = 0)) = true ↔ xs.length = 13
          simp
          omega
        rw [he]
        exact ⟨Iff.rfl, fun _ => rfl⟩
end Go.Proofs.YtpdfmpegcejmkaaGreatDoor
