/- Bursts in a sealed block: what a turned bit makes of the sum and its word, the gap between the row's ends. -/
/- Units and their blocks: plain mathematics. -/
import Derived.Test.YtpdfmpegcejmkaaGreatDoorDevModel
import Derived.Test.YtpdfmpegcejmkaaGreatDoorCodeAdd
namespace Go.Proofs.YtpdfmpegcejmkaaGreatDoor
open Mx
/-- What a unit's sum is of. -/
def unitRow (b : List Int) : List Int := b.drop 36 ++ b.take 28
/-- The word that four bytes are. -/
def word4 (b : List Int) (i : Nat) : BitVec 32 := BitVec.ofInt 32 (b.getD i 0) ^^^ BitVec.ofInt 32 (b.getD (i + 1) 0) <<< 8 ^^^ BitVec.ofInt 32 (b.getD (i + 2) 0) <<< 16 ^^^ BitVec.ofInt 32 (b.getD (i + 3) 0) <<< 24
/-- The sum against its word: all ones just if it fits. -/
def resid (b : List Int) : BitVec 32 := crc 0xFFFFFFFF#32 (unitRow b) ^^^ word4 b 28
def GapOk (b : List Int) : Prop := ∀ i, 32 ≤ i → i < 36 → b.getD i 0 = 0
theorem getD_set_ne (l : List Int) {i j : Nat} (h : i ≠ j) (x : Int) : (l.set i x).getD j 0 = l.getD j 0 := by
  rw [List.getD_eq_getElem?_getD, List.getElem?_set_ne h, ← List.getD_eq_getElem?_getD]
theorem getD_set_eq (l : List Int) {i : Nat} (h : i < l.length) (x : Int) : (l.set i x).getD i 0 = x := by
  rw [List.getD_eq_getElem?_getD, List.getElem?_set_self h]; rfl
theorem unitRow_len {b : List Int} (h : b.length = 256) : (unitRow b).length = 248 := by unfold unitRow; rw [List.length_append, List.length_drop, List.length_take]; omega
theorem unitRow_low {b : List Int} (h : b.length = 256) {q : Nat} (hq : q < 28) (z : Int) : unitRow (b.set q z) = (unitRow b).set (220 + q) z ∧ (unitRow b).getD (220 + q) 0 = b.getD q 0 := by
  have hl : (b.drop 36).length = 220 := by rw [List.length_drop]; omega
  unfold unitRow
  constructor
  · rw [List.drop_set_of_lt (by omega), List.take_set, List.set_append_right _ _ (by omega), hl, show 220 + q - 220 = q by omega]
  · rw [List.getD_eq_getElem?_getD, List.getElem?_append_right (by omega), hl, show 220 + q - 220 = q by omega, List.getElem?_take_of_lt hq, ← List.getD_eq_getElem?_getD]
theorem unitRow_high {b : List Int} (h : b.length = 256) {q : Nat} (hq : 36 ≤ q) (h2 : q < 256) (z : Int) : unitRow (b.set q z) = (unitRow b).set (q - 36) z ∧ (unitRow b).getD (q - 36) 0 = b.getD q 0 := by
  have hl : (b.drop 36).length = 220 := by rw [List.length_drop]; omega
  unfold unitRow
  constructor
  · rw [List.drop_set, if_neg (by omega), List.take_set_of_le (by omega), List.set_append_left _ _ (by omega)]
  · rw [List.getD_eq_getElem?_getD, List.getElem?_append_left (by omega), List.getElem?_drop, show 36 + (q - 36) = q by omega, ← List.getD_eq_getElem?_getD]
theorem unitRow_mid {b : List Int} {q : Nat} (h1 : 28 ≤ q) (h2 : q < 36) (z : Int) : unitRow (b.set q z) = unitRow b := by
  unfold unitRow
  rw [List.drop_set_of_lt (by omega), List.take_set_of_le (by omega)]
theorem word4_far {b : List Int} {q : Nat} (h : q < 28 ∨ 32 ≤ q) (z : Int) : word4 (b.set q z) 28 = word4 b 28 := by
  unfold word4
  rw [getD_set_ne _ (by omega), getD_set_ne _ (by omega), getD_set_ne _ (by omega), getD_set_ne _ (by omega)]
theorem put0 (a b c e d : BitVec 32) : (a ^^^ d) ^^^ b ^^^ c ^^^ e = a ^^^ b ^^^ c ^^^ e ^^^ d := by ac_rfl
theorem put1 (a b c e d : BitVec 32) : a ^^^ (b ^^^ d) ^^^ c ^^^ e = a ^^^ b ^^^ c ^^^ e ^^^ d := by ac_rfl
theorem put2 (a b c e d : BitVec 32) : a ^^^ b ^^^ (c ^^^ d) ^^^ e = a ^^^ b ^^^ c ^^^ e ^^^ d := by ac_rfl
theorem word4_near {b : List Int} (h : b.length = 256) {i : Nat} (hi : i < 4) (z : Int) (d : BitVec 32) (hz : BitVec.ofInt 32 z = BitVec.ofInt 32 (b.getD (28 + i) 0) ^^^ d) : word4 (b.set (28 + i) z) 28 = word4 b 28 ^^^ d <<< (8 * i) := by
  have h4 : i = 0 ∨ i = 1 ∨ i = 2 ∨ i = 3 := by omega
  have hs := getD_set_eq b (i := 28 + i) (by omega) z
  unfold word4
  rcases h4 with rfl | rfl | rfl | rfl
  · have hs : (b.set 28 z).getD 28 0 = z := hs
    have hz : BitVec.ofInt 32 z = BitVec.ofInt 32 (b.getD 28 0) ^^^ d := hz
    show BitVec.ofInt 32 ((b.set 28 z).getD 28 0) ^^^ _ ^^^ _ ^^^ _ = _ ^^^ d <<< 0
    rw [hs, hz, getD_set_ne _ (by omega), getD_set_ne _ (by omega), getD_set_ne _ (by omega), BitVec.shiftLeft_zero]
    exact put0 _ _ _ _ _
  · rw [hs, hz, getD_set_ne _ (by omega), getD_set_ne _ (by omega), getD_set_ne _ (by omega), BitVec.shiftLeft_xor_distrib]
    exact put1 _ _ _ _ _
  · rw [hs, hz, getD_set_ne _ (by omega), getD_set_ne _ (by omega), getD_set_ne _ (by omega), BitVec.shiftLeft_xor_distrib]
    exact put2 _ _ _ _ _
  · rw [hs, hz, getD_set_ne _ (by omega), getD_set_ne _ (by omega), getD_set_ne _ (by omega), BitVec.shiftLeft_xor_distrib]
    exact (BitVec.xor_assoc _ _ _).symm
/-- What a turned bit is of the rest, 32 shifts on. -/
def turned (p : Nat) : BitVec 32 := if p < 256 then shN (256 - p) 1#32 else if p < 288 then 0#32 else shN (2304 - p) 1#32
theorem resid_flip {b : List Int} (h : b.length = 256) {p : Nat} (hp : p < 2048) (z : Int) (hz : BitVec.ofInt 32 z = BitVec.ofInt 32 (b.getD (p / 8) 0) ^^^ (1#32 <<< (p % 8))) :
    shN 32 (resid (b.set (p / 8) z)) = shN 32 (resid b) ^^^ turned p := by
  have hl := unitRow_len h
  unfold resid turned
  by_cases h1 : p / 8 < 28
  · obtain ⟨e1, e2⟩ := unitRow_low h h1 z
    rw [word4_far (.inl h1), e1, crc_set _ _ z _ (1#32 <<< (p % 8)) (by omega) (by rw [e2]; exact hz), hl, if_pos (by omega), shN_xor, shN_xor, shN_xor, ← shN_add, unit_shift _ _ (by omega) (by omega), show 8 * (248 - (220 + p / 8)) + 32 - p % 8 = 256 - p by omega]
    ac_rfl
  · by_cases h2 : p / 8 < 32
    · obtain ⟨i, hi⟩ : ∃ i, p / 8 = 28 + i := ⟨p / 8 - 28, by omega⟩
      rw [hi] at hz
      rw [hi, unitRow_mid (by omega) (by omega), word4_near h (by omega) z _ hz, if_pos (by omega), shN_xor, shN_xor, shN_xor, ← BitVec.shiftLeft_add, unit_shift _ _ (by omega) (by omega), show 32 - (p % 8 + 8 * i) = 256 - p by omega]
      ac_rfl
    · by_cases h3 : p / 8 < 36
      · rw [unitRow_mid (by omega) h3, word4_far (.inr (by omega)), if_neg (by omega), if_pos (by omega), BitVec.xor_zero]
      · obtain ⟨e1, e2⟩ := unitRow_high h (q := p / 8) (by omega) (by omega) z
        rw [word4_far (.inr (by omega)), e1, crc_set _ _ z _ (1#32 <<< (p % 8)) (by omega) (by rw [e2]; exact hz), hl, if_neg (by omega), if_neg (by omega), shN_xor, shN_xor, shN_xor, ← shN_add, unit_shift _ _ (by omega) (by omega), show 8 * (248 - (p / 8 - 36)) + 32 - p % 8 = 2304 - p by omega]
        ac_rfl
theorem flipK_len (b : List Int) (f mask : Nat) : ∀ k, (flipK b f mask k).length = b.length
  | 0 => rfl
  | k + 1 => by
    unfold flipK flipAt
    split
    · rw [List.length_set, flipK_len b f mask k]
    · exact flipK_len b f mask k
/-- The bits of what is turned. -/
theorem flip_bit {b : List Int} (h : b.length = 256) (f mask q s : Nat) (hs : s < 8) : ∀ k, f + k ≤ 2048 →
    ((flipK b f mask k).getD q 0).toNat.testBit s = Bool.xor ((b.getD q 0).toNat.testBit s) (decide (f ≤ 8 * q + s ∧ 8 * q + s < f + k) && mask.testBit (8 * q + s - f))
  | 0, _ => by
    rw [decide_eq_false (by omega), Bool.false_and, Bool.xor_false]; rfl
  | k + 1, hk => by
    have ih := flip_bit h f mask q s hs k (by omega)
    have hl := (flipK_len b f mask k).trans h
    unfold flipK flipAt
    by_cases hm : mask.testBit k = true
    · rw [if_pos hm]
      by_cases hq : (f + k) / 8 = q
      · rw [hq, getD_set_eq _ (by omega), Int.toNat_natCast, Nat.testBit_xor, ih, Nat.one_shiftLeft, Nat.testBit_two_pow]
        by_cases he : (f + k) % 8 = s
        · have h1 : 8 * q + s = f + k := by omega
          rw [decide_eq_true he, h1, decide_eq_false (by omega), decide_eq_true (by omega), show f + k - f = k by omega, hm]
          simp
        · have h1 : (f ≤ 8 * q + s ∧ 8 * q + s < f + k) ↔ (f ≤ 8 * q + s ∧ 8 * q + s < f + (k + 1)) := by omega
          rw [decide_eq_false he, Bool.xor_false, decide_eq_decide.2 h1]
      · rw [getD_set_ne _ hq, ih]
        have h1 : (f ≤ 8 * q + s ∧ 8 * q + s < f + k) ↔ (f ≤ 8 * q + s ∧ 8 * q + s < f + (k + 1)) := by omega
        rw [decide_eq_decide.2 h1]
    · rw [if_neg hm, ih]
      by_cases he : 8 * q + s = f + k
      · rw [he, show f + k - f = k by omega, Bool.eq_false_iff.2 hm, Bool.and_false, Bool.and_false]
      · have h1 : (f ≤ 8 * q + s ∧ 8 * q + s < f + k) ↔ (f ≤ 8 * q + s ∧ 8 * q + s < f + (k + 1)) := by omega
        rw [decide_eq_decide.2 h1]
theorem flipK_none (b : List Int) (f mask : Nat) : ∀ k, (∀ i, i < k → mask.testBit i = false) → flipK b f mask k = b
  | 0, _ => rfl
  | k + 1, h => by
    unfold flipK flipAt
    rw [if_neg (by rw [h k (by omega)]; decide)]
    exact flipK_none b f mask k (fun i hi => h i (by omega))
theorem byte_flip {x : Int} (hx : 0 ≤ x ∧ x < 256) (j : Nat) : BitVec.ofInt 32 ((x.toNat ^^^ (1 <<< j) : Nat) : Int) = BitVec.ofInt 32 x ^^^ (1#32 <<< j) := by
  obtain ⟨n, rfl⟩ := Int.eq_ofNat_of_zero_le hx.1
  rw [BitVec.ofInt_natCast, BitVec.ofInt_natCast, Int.toNat_natCast]
  apply BitVec.eq_of_getLsbD_eq
  intro i hi
  rw [BitVec.getLsbD_ofNat, BitVec.getLsbD_xor, BitVec.getLsbD_ofNat, one_bit _ _ hi, Nat.testBit_xor, Nat.one_shiftLeft, Nat.testBit_two_pow, decide_eq_true hi, Bool.true_and, Bool.true_and]
  congr 1
  exact decide_eq_decide.2 ⟨fun e => e.symm, fun e => e.symm⟩
theorem resid_burst {b : List Int} (h : BlkOk b) (f mask M : Nat) (hM : M = if f < 256 then 256 - f else 2304 - f) : ∀ k, k ≤ 32 → f + k ≤ 2048 → (∀ i, i < k → mask.testBit i = true → ¬ (256 ≤ f + i ∧ f + i < 288)) →
    shN 32 (resid (flipK b f mask k)) = shN 32 (resid b) ^^^ shN M (low k (BitVec.ofNat 32 mask))
  | 0, _, _, _ => by rw [low_zero, shN_zero, BitVec.xor_zero]; rfl
  | k + 1, h1, h2, hg => by
    have ih := resid_burst h f mask M hM k (by omega) (by omega) (fun i hi => hg i (by omega))
    have hok := flipK_ok h f mask k
    have hbit : (BitVec.ofNat 32 mask).getLsbD k = mask.testBit k := by rw [BitVec.getLsbD_ofNat, decide_eq_true (by omega), Bool.true_and]
    rw [low_succ, hbit]
    unfold flipK flipAt
    by_cases hm : mask.testBit k = true
    · have hk := hg k (by omega) hm
      rw [if_pos hm, if_pos hm, shN_xor, ← BitVec.xor_assoc, ← ih]
      have hx : 0 ≤ (flipK b f mask k).getD ((f + k) / 8) 0 ∧ (flipK b f mask k).getD ((f + k) / 8) 0 < 256 := by
        rw [List.getD_eq_getElem?_getD, List.getElem?_eq_getElem (by have := hok.1; omega)]
        exact hok.2 _ (List.getElem_mem _)
      rw [resid_flip hok.1 (by omega) _ (byte_flip hx _)]
      congr 1
      unfold turned
      by_cases hf : f < 256
      · rw [if_pos hf] at hM
        rw [if_pos (by omega), unit_shift _ _ (by omega) (by omega)]
        congr 1; omega
      · rw [if_neg hf] at hM
        rw [if_neg (by omega), if_neg (by omega), unit_shift _ _ (by omega) (by omega)]
        congr 1; omega
    · rw [if_neg hm, if_neg hm, BitVec.xor_zero]; exact ih
/-- A burst that leaves the gap and the sum's rest as they are turns nothing. -/
theorem burst_none {b : List Int} (h : BlkOk b) (f mask k : Nat) (hk : k ≤ 32) (hf : f + k ≤ 2048) (hg : GapOk b) (hg2 : GapOk (flipK b f mask k)) (hr : resid (flipK b f mask k) = resid b) : flipK b f mask k = b := by
  have hgap : ∀ i, i < k → mask.testBit i = true → ¬ (256 ≤ f + i ∧ f + i < 288) := by
    intro i hi hm hr
    have h1 := flip_bit h.1 f mask ((f + i) / 8) ((f + i) % 8) (by omega) k hf
    rw [hg _ (by omega) (by omega), hg2 _ (by omega) (by omega), show 8 * ((f + i) / 8) + (f + i) % 8 = f + i by omega, decide_eq_true (by omega), show f + i - f = i by omega, hm] at h1
    exact absurd h1 (by simp)
  have h1 := resid_burst h f mask _ rfl k hk hf hgap
  rw [hr] at h1
  have h2 : shN (if f < 256 then 256 - f else 2304 - f) (low k (BitVec.ofNat 32 mask)) = 0#32 := by
    have h3 : shN 32 (resid b) ^^^ shN 32 (resid b) = shN 32 (resid b) ^^^ (shN 32 (resid b) ^^^ shN (if f < 256 then 256 - f else 2304 - f) (low k (BitVec.ofNat 32 mask))) := by rw [← h1]
    rw [BitVec.xor_self, ← BitVec.xor_assoc, BitVec.xor_self, BitVec.zero_xor] at h3
    exact h3.symm
  have h3 := shN_eq_zero _ _ h2
  refine flipK_none b f mask k (fun i hi => ?_)
  have h4 := congrArg (fun v : BitVec 32 => v.getLsbD i) h3
  simp only [low_bit _ _ _ (show i < 32 by omega), decide_eq_true hi, Bool.true_and, BitVec.getLsbD_ofNat, decide_eq_true (show i < 32 by omega)] at h4
  exact h4.trans (Nat.zero_testBit i)
end Go.Proofs.YtpdfmpegcejmkaaGreatDoor
namespace Go.Proofs.YtpdfmpegcejmkaaGreatDoor
open Mx
structure UnitV where
  kind : Int
  num : Int
  body : List Int
def UnitV.right (u : UnitV) : Prop := (1 ≤ u.kind ∧ u.kind ≤ 8) ∧ (0 ≤ u.num ∧ u.num ≤ 1099511627776) ∧ u.body.length ≤ 239
instance (u : UnitV) : Decidable u.right := by unfold UnitV.right; exact inferInstance
def padTo (n : Nat) (bs : List Int) : List Int := bs ++ List.replicate (n - bs.length) 0
theorem padTo_len {n : Nat} {bs : List Int} (h : bs.length ≤ n) : (padTo n bs).length = n := by unfold padTo; rw [List.length_append, List.length_replicate]; omega
theorem padTo_bd {n : Nat} {bs : List Int} (h : ∀ z ∈ bs, 0 ≤ z ∧ z < 256) : ∀ z ∈ padTo n bs, 0 ≤ z ∧ z < 256 := by
  intro z hz
  unfold padTo at hz
  rcases List.mem_append.1 hz with hz | hz
  · exact h z hz
  · rw [List.mem_replicate] at hz; omega
theorem padTo_take {n : Nat} {bs : List Int} : (padTo n bs).take bs.length = bs := by unfold padTo; rw [List.take_append_of_le_length (Nat.le_refl _), List.take_length]
/-- A block up to its sum; what is behind the gap. -/
def UnitV.front (u : UnitV) : List Int := u.kind :: (le 6 u.num ++ (u.body.length : Int) :: padTo 20 (u.body.take 20))
def UnitV.rest (u : UnitV) : List Int := padTo 219 (u.body.drop 20) ++ [if 20 < u.body.length then 1 else 0]
def UnitV.sumB (u : UnitV) : List Int := le 4 ((sum (u.rest ++ u.front)).toNat : Int)
def sealB (u : UnitV) : List Int := u.front ++ (u.sumB ++ ([0, 0, 0, 0] ++ u.rest))
def noUnit : UnitV := ⟨0, 0, []⟩
def fitsB (b : List Int) : Prop := unle ((b.drop 28).take 4) = ((sum (unitRow b)).toNat : Int)
instance (b : List Int) : Decidable (fitsB b) := by unfold fitsB; exact inferInstance
/-- The unit that a block would be of. -/
def unitOf (b : List Int) : UnitV := ⟨b.getD 0 0, unle ((b.drop 1).take 6), ((b.drop 8).take 20 ++ (b.drop 36).take 219).take (b.getD 7 0).toNat⟩
def openB (b : List Int) : UnitV × Int :=
  if b.length ≠ 256 ∨ b.getD 0 0 < 1 ∨ 8 < b.getD 0 0 then (noUnit, 4) else if ¬ fitsB b then (noUnit, 5) else if (unitOf b).right ∧ sealB (unitOf b) = b then (unitOf b, 0) else (noUnit, 4)
section
variable {u : UnitV}
theorem front_len (u : UnitV) : u.front.length = 28 := by
  unfold UnitV.front
  rw [List.length_cons, List.length_append, List.length_cons, le_len, padTo_len (by rw [List.length_take]; omega)]
theorem rest_len (h : u.body.length ≤ 239) : u.rest.length = 220 := by
  unfold UnitV.rest
  rw [List.length_append, padTo_len (by rw [List.length_drop]; omega)]; rfl
theorem sumB_len (u : UnitV) : u.sumB.length = 4 := by unfold UnitV.sumB; rw [le_len]
theorem seal_len (h : u.body.length ≤ 239) : (sealB u).length = 256 := by
  unfold sealB
  rw [List.length_append, List.length_append, List.length_append, front_len, sumB_len, rest_len h]; rfl
theorem seal_drop28 (u : UnitV) : (sealB u).drop 28 = u.sumB ++ ([0, 0, 0, 0] ++ u.rest) := by
  unfold sealB
  rw [List.drop_append_of_le_length (by rw [front_len]; exact Nat.le_refl _), List.drop_eq_nil_of_le (by rw [front_len]; exact Nat.le_refl _), List.nil_append]
theorem seal_drop32 (u : UnitV) : (sealB u).drop 32 = [0, 0, 0, 0] ++ u.rest := by
  rw [show (32 : Nat) = 28 + 4 from rfl, ← List.drop_drop, seal_drop28, List.drop_append_of_le_length (by rw [sumB_len]; exact Nat.le_refl _), List.drop_eq_nil_of_le (by rw [sumB_len]; exact Nat.le_refl _), List.nil_append]
theorem seal_drop36 (u : UnitV) : (sealB u).drop 36 = u.rest := by
  rw [show (36 : Nat) = 32 + 4 from rfl, ← List.drop_drop, seal_drop32]; rfl
theorem seal_take28 (u : UnitV) : (sealB u).take 28 = u.front := by
  unfold sealB
  rw [List.take_append_of_le_length (by rw [front_len]; exact Nat.le_refl _), List.take_of_length_le (by rw [front_len]; exact Nat.le_refl _)]
theorem seal_row (u : UnitV) : unitRow (sealB u) = u.rest ++ u.front := by unfold unitRow; rw [seal_drop36, seal_take28]
theorem getD_of_drop (b : List Int) (k i : Nat) : b.getD (k + i) 0 = (b.drop k).getD i 0 := by
  rw [List.getD_eq_getElem?_getD, List.getD_eq_getElem?_getD, List.getElem?_drop]
theorem seal_gap (u : UnitV) : GapOk (sealB u) := by
  intro i h1 h2
  obtain ⟨j, rfl⟩ : ∃ j, i = 32 + j := ⟨i - 32, by omega⟩
  rw [getD_of_drop, seal_drop32]
  have : j = 0 ∨ j = 1 ∨ j = 2 ∨ j = 3 := by omega
  rcases this with rfl | rfl | rfl | rfl <;> rfl
theorem seal_sum (u : UnitV) : ((sealB u).drop 28).take 4 = u.sumB := by
  rw [seal_drop28, List.take_append_of_le_length (by rw [sumB_len]; exact Nat.le_refl _), List.take_of_length_le (by rw [sumB_len]; exact Nat.le_refl _)]
theorem seal_fits (u : UnitV) : fitsB (sealB u) := by
  unfold fitsB
  rw [seal_sum, seal_row]
  unfold UnitV.sumB
  have := (sum (u.rest ++ u.front)).isLt
  exact unle_le 4 _ (by omega) (by omega)
theorem seal_bd (h : u.right) (hb : ∀ z ∈ u.body, 0 ≤ z ∧ z < 256) : ∀ z ∈ sealB u, 0 ≤ z ∧ z < 256 := by
  obtain ⟨hk, hn, hl⟩ := h
  intro z hz
  unfold sealB UnitV.front UnitV.sumB UnitV.rest at hz
  simp only [List.mem_append, List.mem_cons, List.not_mem_nil, or_false] at hz
  rcases hz with (rfl | hz | rfl | hz) | hz | (rfl | rfl | rfl | rfl) | hz | rfl
  · omega
  · exact le_bd _ _ z hz
  · omega
  · exact padTo_bd (fun y hy => hb y (List.mem_of_mem_take hy)) z hz
  · exact le_bd _ _ z hz
  · omega
  · omega
  · omega
  · omega
  · exact padTo_bd (fun y hy => hb y (List.mem_of_mem_drop hy)) z hz
  · split <;> omega
theorem seal_ok (h : u.right) (hb : ∀ z ∈ u.body, 0 ≤ z ∧ z < 256) : BlkOk (sealB u) := ⟨seal_len h.2.2, seal_bd h hb⟩
theorem seal_at0 (u : UnitV) : (sealB u).getD 0 0 = u.kind := rfl
theorem seal_num (h : u.right) : unle (((sealB u).drop 1).take 6) = u.num := by
  have : ((sealB u).drop 1).take 6 = le 6 u.num := by
    show (List.take 6 ((le 6 u.num ++ _) ++ _)) = _
    rw [List.append_assoc, List.take_append_of_le_length (by rw [le_len]; exact Nat.le_refl _), List.take_of_length_le (by rw [le_len]; exact Nat.le_refl _)]
  rw [this]
  exact unle_le 6 _ h.2.1.1 (by have := h.2.1.2; omega)
theorem seal_drop7 (u : UnitV) : (sealB u).drop 7 = (u.body.length : Int) :: (padTo 20 (u.body.take 20) ++ (u.sumB ++ ([0, 0, 0, 0] ++ u.rest))) := by
  show List.drop 6 ((le 6 u.num ++ _) ++ _) = _
  rw [List.append_assoc, List.drop_append_of_le_length (by rw [le_len]; exact Nat.le_refl _), List.drop_eq_nil_of_le (by rw [le_len]; exact Nat.le_refl _)]; rfl
theorem seal_len7 (u : UnitV) : (sealB u).getD 7 0 = (u.body.length : Int) := by
  rw [show (7 : Nat) = 7 + 0 from rfl, getD_of_drop, seal_drop7]; rfl
theorem seal_body (h : u.right) : (((sealB u).drop 8).take 20 ++ ((sealB u).drop 36).take 219).take u.body.length = u.body := by
  have hl := h.2.2
  have h8 : ((sealB u).drop 8).take 20 = padTo 20 (u.body.take 20) := by
    rw [show (8 : Nat) = 7 + 1 from rfl, ← List.drop_drop, seal_drop7]
    show List.take 20 (padTo 20 (u.body.take 20) ++ _) = _
    have hp : (padTo 20 (u.body.take 20)).length = 20 := padTo_len (by rw [List.length_take]; omega)
    rw [List.take_append_of_le_length (by omega), List.take_of_length_le (by omega)]
  have h36 : ((sealB u).drop 36).take 219 = padTo 219 (u.body.drop 20) := by
    have hp : (padTo 219 (u.body.drop 20)).length = 219 := padTo_len (by rw [List.length_drop]; omega)
    rw [seal_drop36]
    unfold UnitV.rest
    rw [List.take_append_of_le_length (by omega), List.take_of_length_le (by omega)]
  rw [h8, h36]
  rcases Nat.lt_or_ge 20 u.body.length with h20 | h20
  · have e1 : padTo 20 (u.body.take 20) = u.body.take 20 := by unfold padTo; rw [List.length_take, show 20 - min 20 u.body.length = 0 by omega]; simp
    rw [e1]
    unfold padTo
    rw [← List.append_assoc, List.take_append_drop, List.take_append_of_le_length (Nat.le_refl _), List.take_length]
  · rw [List.take_append_of_le_length (by rw [padTo_len (by rw [List.length_take]; omega)]; exact h20), List.take_of_length_le h20]
    exact padTo_take
theorem unitOf_seal (h : u.right) : unitOf (sealB u) = u := by
  unfold unitOf
  rw [seal_num h, seal_len7, Int.toNat_natCast, seal_body h]; rfl
theorem open_seal (h : u.right) : openB (sealB u) = (u, 0) := by
  unfold openB
  have h0 := seal_at0 u
  rw [if_neg (by rw [seal_len h.2.2, h0]; have := h.1; omega), if_neg (fun hn => hn (seal_fits u)), unitOf_seal h, if_pos ⟨h, rfl⟩]
end
/-- What is opened is sealed to just that. -/
theorem open_some {b : List Int} (h : (openB b).2 = 0) : (openB b).1.right ∧ sealB (openB b).1 = b := by
  unfold openB at h ⊢
  split at h
  · exact absurd h (by decide)
  · next h1 =>
    rw [if_neg h1]
    split at h
    · exact absurd h (by decide)
    · next h2 =>
      rw [if_neg h2]
      split at h
      · next h3 => rw [if_pos h3]; exact h3
      · exact absurd h (by decide)
theorem open_else {b : List Int} (h : (openB b).2 ≠ 0) : (openB b).1 = noUnit := by
  unfold openB at h ⊢
  split at h
  · next h1 => rw [if_pos h1]
  · next h1 =>
    rw [if_neg h1]
    split at h
    · next h2 => rw [if_pos h2]
    · next h2 =>
      rw [if_neg h2]
      split at h
      · exact absurd rfl h
      · next h3 => rw [if_neg h3]
/-- The body of a block's unit, of a kind and a number. -/
def asB (b : List Int) (kind num : Int) : List Int × Int :=
  if (openB b).2 ≠ 0 then ([], (openB b).2) else if (openB b).1.kind ≠ kind ∨ (0 ≤ num ∧ (openB b).1.num ≠ num) then ([], 6) else ((openB b).1.body, 0)
def UnitV.small (u : UnitV) : Prop := u.right ∧ u.body.length ≤ 20
instance (u : UnitV) : Decidable u.small := by unfold UnitV.small; exact inferInstance
theorem open_noughts : openB (List.replicate 256 0) = (noUnit, 4) := by
  unfold openB
  rw [if_pos (.inr (.inl (by decide)))]
end Go.Proofs.YtpdfmpegcejmkaaGreatDoor
