/- Bursts in a sealed block: what a turned bit makes of the sum and its word, the gap between the row's ends. -/
import Derived.Test.YtbkecaenjjlmoaaGreatDoorMixRunMath
import Derived.Test.YtbkecaenjjlmoaaGreatDoorDevModel
namespace Go.Proofs.YtbkecaenjjlmoaaGreatDoor
open Mx
/-- What a unit's sum is of. -/
def unitRow (b : List Int) : List Int := b.drop 36 ++ b.take 28
/-- The word that four bytes are. -/
def word4 (b : List Int) (i : Nat) : BitVec 32 := BitVec.ofInt 32 (b.getD i 0) ^^^ BitVec.ofInt 32 (b.getD (i + 1) 0) <<< 8 ^^^ BitVec.ofInt 32 (b.getD (i + 2) 0) <<< 16 ^^^ BitVec.ofInt 32 (b.getD (i + 3) 0) <<< 24
/-- The sum against its word: all ones just if it fits. -/
def resid (b : List Int) : BitVec 32 := crc 0xFFFFFFFF#32 (unitRow b) ^^^ word4 b 28
def GapOk (b : List Int) : Prop := ∀ i, 32 ≤ i → i < 36 → b.getD i 0 = 0
theorem getD_set_ne (l : List Int) {i j : Nat} (h : i ≠ j) (x : Int) : (l.set i x).getD j 0 = l.getD j 0 := by
  rw [List.getD_eq_getElem?_getD, List.getElem?_set_ne h, ← List.getD_eq_getElem?_getD]
theorem getD_set_eq (l : List Int) {i : Nat} (h : i < l.length) (x : Int) : (l.set i x).getD i 0 = x := by
  rw [List.getD_eq_getElem?_getD, List.getElem?_set_self h]; rfl
theorem unitRow_len {b : List Int} (h : b.length = 256) : (unitRow b).length = 248 := by unfold unitRow; rw [List.length_append, List.length_drop, List.length_take]; omega
theorem unitRow_low {b : List Int} (h : b.length = 256) {q : Nat} (hq : q < 28) (z : Int) : unitRow (b.set q z) = (unitRow b).set (220 + q) z ∧ (unitRow b).getD (220 + q) 0 = b.getD q 0 := by
  have hl : (b.drop 36).length = 220 := by rw [List.length_drop]; omega
  unfold unitRow
  constructor
  · rw [List.drop_set_of_lt (by omega), List.take_set, List.set_append_right _ _ (by omega), hl, show 220 + q - 220 = q by omega]
  · rw [List.getD_eq_getElem?_getD, List.getElem?_append_right (by omega), hl, show 220 + q - 220 = q by omega, List.getElem?_take_of_lt hq, ← List.getD_eq_getElem?_getD]
theorem unitRow_high {b : List Int} (h : b.length = 256) {q : Nat} (hq : 36 ≤ q) (h2 : q < 256) (z : Int) : unitRow (b.set q z) = (unitRow b).set (q - 36) z ∧ (unitRow b).getD (q - 36) 0 = b.getD q 0 := by
  have hl : (b.drop 36).length = 220 := by rw [List.length_drop]; omega
  unfold unitRow
  constructor
  · rw [List.drop_set, if_neg (by omega), List.take_set_of_le (by omega), List.set_append_left _ _ (by omega)]
  · rw [List.getD_eq_getElem?_getD, List.getElem?_append_left (by omega), List.getElem?_drop, show 36 + (q - 36) = q by omega, ← List.getD_eq_getElem?_getD]
theorem unitRow_mid {b : List Int} {q : Nat} (h1 : 28 ≤ q) (h2 : q < 36) (z : Int) : unitRow (b.set q z) = unitRow b := by
  unfold unitRow
  rw [List.drop_set_of_lt (by omega), List.take_set_of_le (by omega)]
theorem word4_far {b : List Int} {q : Nat} (h : q < 28 ∨ 32 ≤ q) (z : Int) : word4 (b.set q z) 28 = word4 b 28 := by
  unfold word4
  rw [getD_set_ne _ (by omega), getD_set_ne _ (by omega), getD_set_ne _ (by omega), getD_set_ne _ (by omega)]
theorem put0 (a b c e d : BitVec 32) : (a ^^^ d) ^^^ b ^^^ c ^^^ e = a ^^^ b ^^^ c ^^^ e ^^^ d := by ac_rfl
theorem put1 (a b c e d : BitVec 32) : a ^^^ (b ^^^ d) ^^^ c ^^^ e = a ^^^ b ^^^ c ^^^ e ^^^ d := by ac_rfl
theorem put2 (a b c e d : BitVec 32) : a ^^^ b ^^^ (c ^^^ d) ^^^ e = a ^^^ b ^^^ c ^^^ e ^^^ d := by ac_rfl
theorem word4_near {b : List Int} (h : b.length = 256) {i : Nat} (hi : i < 4) (z : Int) (d : BitVec 32) (hz : BitVec.ofInt 32 z = BitVec.ofInt 32 (b.getD (28 + i) 0) ^^^ d) : word4 (b.set (28 + i) z) 28 = word4 b 28 ^^^ d <<< (8 * i) := by
  have h4 : i = 0 ∨ i = 1 ∨ i = 2 ∨ i = 3 := by omega
  have hs := getD_set_eq b (i := 28 + i) (by omega) z
  unfold word4
  rcases h4 with rfl | rfl | rfl | rfl
  · have hs : (b.set 28 z).getD 28 0 = z := hs
    have hz : BitVec.ofInt 32 z = BitVec.ofInt 32 (b.getD 28 0) ^^^ d := hz
    show BitVec.ofInt 32 ((b.set 28 z).getD 28 0) ^^^ _ ^^^ _ ^^^ _ = _ ^^^ d <<< 0
    rw [hs, hz, getD_set_ne _ (by omega), getD_set_ne _ (by omega), getD_set_ne _ (by omega), BitVec.shiftLeft_zero]
    exact put0 _ _ _ _ _
  · rw [hs, hz, getD_set_ne _ (by omega), getD_set_ne _ (by omega), getD_set_ne _ (by omega), BitVec.shiftLeft_xor_distrib]
    exact put1 _ _ _ _ _
  · rw [hs, hz, getD_set_ne _ (by omega), getD_set_ne _ (by omega), getD_set_ne _ (by omega), BitVec.shiftLeft_xor_distrib]
    exact put2 _ _ _ _ _
  · rw [hs, hz, getD_set_ne _ (by omega), getD_set_ne _ (by omega), getD_set_ne _ (by omega), BitVec.shiftLeft_xor_distrib]
    exact (BitVec.xor_assoc _ _ _).symm
/-- What a turned bit is of the rest, 32 shifts on. -/
def turned (p : Nat) : BitVec 32 := if p < 256 then shN (256 - p) 1#32 else if p < 288 then 0#32 else shN (2304 - p) 1#32
theorem resid_flip {b : List Int} (h : b.length = 256) {p : Nat} (hp : p < 2048) (z : Int) (hz : BitVec.ofInt 32 z = BitVec.ofInt 32 (b.getD (p / 8) 0) ^^^ (1#32 <<< (p % 8))) :
    shN 32 (resid (b.set (p / 8) z)) = shN 32 (resid b) ^^^ turned p := by
  have hl := unitRow_len h
  unfold resid turned
  by_cases h1 : p / 8 < 28
  · obtain ⟨e1, e2⟩ := unitRow_low h h1 z
    rw [word4_far (.inl h1), e1, crc_set _ _ z _ (1#32 <<< (p % 8)) (by omega) (by rw [e2]; exact hz), hl, if_pos (by omega), shN_xor, shN_xor, shN_xor, ← shN_add, unit_shift _ _ (by omega) (by omega), show 8 * (248 - (220 + p / 8)) + 32 - p % 8 = 256 - p by omega]
    ac_rfl
  · by_cases h2 : p / 8 < 32
    · obtain ⟨i, hi⟩ : ∃ i, p / 8 = 28 + i := ⟨p / 8 - 28, by omega⟩
      rw [hi] at hz
      rw [hi, unitRow_mid (by omega) (by omega), word4_near h (by omega) z _ hz, if_pos (by omega), shN_xor, shN_xor, shN_xor, ← BitVec.shiftLeft_add, unit_shift _ _ (by omega) (by omega), show 32 - (p % 8 + 8 * i) = 256 - p by omega]
      ac_rfl
    · by_cases h3 : p / 8 < 36
      · rw [unitRow_mid (by omega) h3, word4_far (.inr (by omega)), if_neg (by omega), if_pos (by omega), BitVec.xor_zero]
      · obtain ⟨e1, e2⟩ := unitRow_high h (q := p / 8) (by omega) (by omega) z
        rw [word4_far (.inr (by omega)), e1, crc_set _ _ z _ (1#32 <<< (p % 8)) (by omega) (by rw [e2]; exact hz), hl, if_neg (by omega), if_neg (by omega), shN_xor, shN_xor, shN_xor, ← shN_add, unit_shift _ _ (by omega) (by omega), show 8 * (248 - (p / 8 - 36)) + 32 - p % 8 = 2304 - p by omega]
        ac_rfl
theorem flipK_len (b : List Int) (f mask : Nat) : ∀ k, (flipK b f mask k).length = b.length
  | 0 => rfl
  | k + 1 => by
    unfold flipK flipAt
    split
    · rw [List.length_set, flipK_len b f mask k]
    · exact flipK_len b f mask k
/-- The bits of what is turned. -/
theorem flip_bit {b : List Int} (h : b.length = 256) (f mask q s : Nat) (hs : s < 8) : ∀ k, f + k ≤ 2048 →
    ((flipK b f mask k).getD q 0).toNat.testBit s = Bool.xor ((b.getD q 0).toNat.testBit s) (decide (f ≤ 8 * q + s ∧ 8 * q + s < f + k) && mask.testBit (8 * q + s - f))
  | 0, _ => by
    rw [decide_eq_false (by omega), Bool.false_and, Bool.xor_false]; rfl
  | k + 1, hk => by
    have ih := flip_bit h f mask q s hs k (by omega)
    have hl := (flipK_len b f mask k).trans h
    unfold flipK flipAt
    by_cases hm : mask.testBit k = true
    · rw [if_pos hm]
      by_cases hq : (f + k) / 8 = q
      · rw [hq, getD_set_eq _ (by omega), Int.toNat_natCast, Nat.testBit_xor, ih, Nat.one_shiftLeft, Nat.testBit_two_pow]
        by_cases he : (f + k) % 8 = s
        · have h1 : 8 * q + s = f + k := by omega
          rw [decide_eq_true he, h1, decide_eq_false (by omega), decide_eq_true (by omega), show f + k - f = k by omega, hm]
          simp
        · have h1 : (f ≤ 8 * q + s ∧ 8 * q + s < f + k) ↔ (f ≤ 8 * q + s ∧ 8 * q + s < f + (k + 1)) := by omega
          rw [decide_eq_false he, Bool.xor_false, decide_eq_decide.2 h1]
      · rw [getD_set_ne _ hq, ih]
        have h1 : (f ≤ 8 * q + s ∧ 8 * q + s < f + k) ↔ (f ≤ 8 * q + s ∧ 8 * q + s < f + (k + 1)) := by omega
        rw [decide_eq_decide.2 h1]
    · rw [if_neg hm, ih]
      by_cases he : 8 * q + s = f + k
      · rw [he, show f + k - f = k by omega, Bool.eq_false_iff.2 hm, Bool.and_false, Bool.and_false]
      · have h1 : (f ≤ 8 * q + s ∧ 8 * q + s < f + k) ↔ (f ≤ 8 * q + s ∧ 8 * q + s < f + (k + 1)) := by omega
        rw [decide_eq_decide.2 h1]
theorem flipK_none (b : List Int) (f mask : Nat) : ∀ k, (∀ i, i < k → mask.testBit i = false) → flipK b f mask k = b
  | 0, _ => rfl
  | k + 1, h => by
    unfold flipK flipAt
    rw [if_neg (by rw [h k (by omega)]; decide)]
    exact flipK_none b f mask k (fun i hi => h i (by omega))
theorem byte_flip {x : Int} (hx : 0 ≤ x ∧ x < 256) (j : Nat) : BitVec.ofInt 32 ((x.toNat ^^^ (1 <<< j) : Nat) : Int) = BitVec.ofInt 32 x ^^^ (1#32 <<< j) := by
  obtain ⟨n, rfl⟩ := Int.eq_ofNat_of_zero_le hx.1
  rw [BitVec.ofInt_natCast, BitVec.ofInt_natCast, Int.toNat_natCast]
  apply BitVec.eq_of_getLsbD_eq
  intro i hi
  rw [BitVec.getLsbD_ofNat, BitVec.getLsbD_xor, BitVec.getLsbD_ofNat, one_bit _ _ hi, Nat.testBit_xor, Nat.one_shiftLeft, Nat.testBit_two_pow, decide_eq_true hi, Bool.true_and, Bool.true_and]
  congr 1
  exact decide_eq_decide.2 ⟨fun e => e.symm, fun e => e.symm⟩
theorem resid_burst {b : List Int} (h : BlkOk b) (f mask M : Nat) (hM : M = if f < 256 then 256 - f else 2304 - f) : ∀ k, k ≤ 32 → f + k ≤ 2048 → (∀ i, i < k → mask.testBit i = true → ¬ (256 ≤ f + i ∧ f + i < 288)) →
    shN 32 (resid (flipK b f mask k)) = shN 32 (resid b) ^^^ shN M (low k (BitVec.ofNat 32 mask))
  | 0, _, _, _ => by rw [low_zero, shN_zero, BitVec.xor_zero]; rfl
  | k + 1, h1, h2, hg => by
    have ih := resid_burst h f mask M hM k (by omega) (by omega) (fun i hi => hg i (by omega))
    have hok := flipK_ok h f mask k
    have hbit : (BitVec.ofNat 32 mask).getLsbD k = mask.testBit k := by rw [BitVec.getLsbD_ofNat, decide_eq_true (by omega), Bool.true_and]
    rw [low_succ, hbit]
    unfold flipK flipAt
    by_cases hm : mask.testBit k = true
    · have hk := hg k (by omega) hm
      rw [if_pos hm, if_pos hm, shN_xor, ← BitVec.xor_assoc, ← ih]
      have hx : 0 ≤ (flipK b f mask k).getD ((f + k) / 8) 0 ∧ (flipK b f mask k).getD ((f + k) / 8) 0 < 256 := by
        rw [List.getD_eq_getElem?_getD, List.getElem?_eq_getElem (by have := hok.1; omega)]
        exact hok.2 _ (List.getElem_mem _)
      rw [resid_flip hok.1 (by omega) _ (byte_flip hx _)]
      congr 1
      unfold turned
      by_cases hf : f < 256
      · rw [if_pos hf] at hM
        rw [if_pos (by omega), unit_shift _ _ (by omega) (by omega)]
        congr 1; omega
      · rw [if_neg hf] at hM
        rw [if_neg (by omega), if_neg (by omega), unit_shift _ _ (by omega) (by omega)]
        congr 1; omega
    · rw [if_neg hm, if_neg hm, BitVec.xor_zero]; exact ih
/-- A burst that leaves the gap and the sum's rest as they are turns nothing. -/
theorem burst_none {b : List Int} (h : BlkOk b) (f mask k : Nat) (hk : k ≤ 32) (hf : f + k ≤ 2048) (hg : GapOk b) (hg2 : GapOk (flipK b f mask k)) (hr : resid (flipK b f mask k) = resid b) : flipK b f mask k = b := by
  have hgap : ∀ i, i < k → mask.testBit i = true → ¬ (256 ≤ f + i ∧ f + i < 288) := by
    intro i hi hm hr
    have h1 := flip_bit h.1 f mask ((f + i) / 8) ((f + i) % 8) (by omega) k hf
    rw [hg _ (by omega) (by omega), hg2 _ (by omega) (by omega), show 8 * ((f + i) / 8) + (f + i) % 8 = f + i by omega, decide_eq_true (by omega), show f + i - f = i by omega, hm] at h1
    exact absurd h1 (by simp)
  have h1 := resid_burst h f mask _ rfl k hk hf hgap
  rw [hr] at h1
  have h2 : shN (if f < 256 then 256 - f else 2304 - f) (low k (BitVec.ofNat 32 mask)) = 0#32 := by
    have h3 : shN 32 (resid b) ^^^ shN 32 (resid b) = shN 32 (resid b) ^^^ (shN 32 (resid b) ^^^ shN (if f < 256 then 256 - f else 2304 - f) (low k (BitVec.ofNat 32 mask))) := by rw [← h1]
    rw [BitVec.xor_self, ← BitVec.xor_assoc, BitVec.xor_self, BitVec.zero_xor] at h3
    exact h3.symm
  have h3 := shN_eq_zero _ _ h2
  refine flipK_none b f mask k (fun i hi => ?_)
  have h4 := congrArg (fun v : BitVec 32 => v.getLsbD i) h3
  simp only [low_bit _ _ _ (show i < 32 by omega), decide_eq_true hi, Bool.true_and, BitVec.getLsbD_ofNat, decide_eq_true (show i < 32 by omega)] at h4
  exact h4.trans (Nat.zero_testBit i)
end Go.Proofs.YtbkecaenjjlmoaaGreatDoor
