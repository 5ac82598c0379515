/- A sealed block that is hurt is not opened: plain mathematics. -/
import Derived.Test.YtmmebaphhgggfaaGreatDoorUnitLay
import Derived.Test.YtmmebaphhgggfaaGreatDoorMixRunMath
namespace Go.Proofs.YtmmebaphhgggfaaGreatDoor
open Mx
theorem getD_bd {b : List Int} (h : ∀ z ∈ b, 0 ≤ z ∧ z < 256) (i : Nat) : 0 ≤ b.getD i 0 ∧ b.getD i 0 < 256 := by
  rw [List.getD_eq_getElem?_getD]
  rcases Nat.lt_or_ge i b.length with hi | hi
  · rw [List.getElem?_eq_getElem hi]; exact h _ (List.getElem_mem hi)
  · rw [List.getElem?_eq_none hi]; exact ⟨by decide, by decide⟩
theorem four_of {b : List Int} (h : b.length = 256) : (b.drop 28).take 4 = [b.getD 28 0, b.getD 29 0, b.getD 30 0, b.getD 31 0] := by
  apply List.ext_getElem?
  intro i
  rw [List.getElem?_take]
  have hi : i = 0 ∨ i = 1 ∨ i = 2 ∨ i = 3 ∨ 4 ≤ i := by omega
  rcases hi with rfl | rfl | rfl | rfl | hi
  · rw [if_pos (by omega), List.getElem?_drop, List.getElem?_eq_getElem (by omega)]; simp [List.getD_eq_getElem?_getD, h]
  · rw [if_pos (by omega), List.getElem?_drop, List.getElem?_eq_getElem (by omega)]; simp [List.getD_eq_getElem?_getD, h]
  · rw [if_pos (by omega), List.getElem?_drop, List.getElem?_eq_getElem (by omega)]; simp [List.getD_eq_getElem?_getD, h]
  · rw [if_pos (by omega), List.getElem?_drop, List.getElem?_eq_getElem (by omega)]; simp [List.getD_eq_getElem?_getD, h]
  · rw [if_neg (by omega), List.getElem?_eq_none (by simp; omega)]
theorem word4_unle {b : List Int} (h : BlkOk b) : (((word4 b 28).toNat : Nat) : Int) = unle ((b.drop 28).take 4) := by
  rw [four_of h.1]
  unfold word4
  obtain ⟨h0, g0⟩ := getD_bd h.2 28
  obtain ⟨h1, g1⟩ := getD_bd h.2 29
  obtain ⟨h2, g2⟩ := getD_bd h.2 30
  obtain ⟨h3, g3⟩ := getD_bd h.2 31
  show (((BitVec.ofInt 32 (b.getD 28 0) ^^^ BitVec.ofInt 32 (b.getD 29 0) <<< 8 ^^^ BitVec.ofInt 32 (b.getD 30 0) <<< 16 ^^^ BitVec.ofInt 32 (b.getD 31 0) <<< 24).toNat : Nat) : Int) = _
  generalize b.getD 28 0 = z0 at *
  generalize b.getD 29 0 = z1 at *
  generalize b.getD 30 0 = z2 at *
  generalize b.getD 31 0 = z3 at *
  obtain ⟨n0, rfl⟩ := Int.eq_ofNat_of_zero_le h0
  obtain ⟨n1, rfl⟩ := Int.eq_ofNat_of_zero_le h1
  obtain ⟨n2, rfl⟩ := Int.eq_ofNat_of_zero_le h2
  obtain ⟨n3, rfl⟩ := Int.eq_ofNat_of_zero_le h3
  rw [BitVec.ofInt_natCast, BitVec.ofInt_natCast, BitVec.ofInt_natCast, BitVec.ofInt_natCast, ← word_or n0 n1 n2 n3 (by omega) (by omega) (by omega), or_step _ _ _ (by omega), or_step _ _ _ (by omega), or_step _ _ _ (by omega), BitVec.toNat_ofNat]
  simp only [unle]
  omega
theorem fits_resid {b : List Int} (h : BlkOk b) : fitsB b ↔ resid b = 0xFFFFFFFF#32 := by
  unfold fitsB resid
  rw [← word4_unle h]
  unfold sum
  have hx : ∀ x y : BitVec 32, (((y.toNat : Nat) : Int) = (((~~~ x).toNat : Nat) : Int)) ↔ x ^^^ y = 0xFFFFFFFF#32 := by
    intro x y
    constructor
    · intro e
      have e : y = ~~~ x := BitVec.eq_of_toNat_eq (by omega)
      rw [e, not_eq_xor, ← BitVec.xor_assoc, BitVec.xor_self, BitVec.zero_xor]
    · intro e
      have e : y = ~~~ x := by rw [not_eq_xor, ← e, ← BitVec.xor_assoc, BitVec.xor_self, BitVec.zero_xor]
      rw [e]
  exact hx _ _
theorem open_fits {b : List Int} (h : (openB b).2 = 0) : fitsB b ∧ GapOk b := by
  obtain ⟨_, h2⟩ := open_some h
  rw [← h2]
  exact ⟨seal_fits _, seal_gap _⟩
/-- A sealed block with a burst is not opened, unless nothing is turned. -/
theorem open_burst {u : UnitV} (hu : u.right) (hb : ∀ z ∈ u.body, 0 ≤ z ∧ z < 256) (f mask k : Nat) (hk : k ≤ 32) (hf : f + k ≤ 2048) (h : (openB (flipK (sealB u) f mask k)).2 = 0) : flipK (sealB u) f mask k = sealB u := by
  have ho := seal_ok hu hb
  obtain ⟨h1, h2⟩ := open_fits h
  refine burst_none ho f mask k hk hf (seal_gap u) h2 ?_
  rw [(fits_resid (flipK_ok ho f mask k)).1 h1, (fits_resid ho).1 (seal_fits u)]
/-- What is written anew, torn: so many first sectors of it, over what was there. -/
def tornB (b c : List Int) (s : Nat) : List Int := b.take (32 * s) ++ c.drop (32 * s)
theorem tornB_get {b c : List Int} {s q : Nat} (hs : 32 * s ≤ b.length) (hq : 32 * s ≤ q) : (tornB b c s).getD q 0 = c.getD q 0 := by
  have hl : (b.take (32 * s)).length = 32 * s := by rw [List.length_take]; omega
  unfold tornB
  rw [List.getD_eq_getElem?_getD, List.getElem?_append_right (by omega), hl, List.getElem?_drop, show 32 * s + (q - 32 * s) = q by omega, ← List.getD_eq_getElem?_getD]
theorem tornB_over {b c : List Int} {s t : Nat} (hb : b.length = 256) (hs : s ≤ 8) : tornB b (tornB b c s) t = tornB b c (max s t) := by
  have hl : (b.take (32 * s)).length = 32 * s := by rw [List.length_take]; omega
  unfold tornB
  rcases Nat.le_total s t with h | h
  · rw [Nat.max_eq_right h, List.drop_append, hl, List.drop_eq_nil_of_le (by omega), List.nil_append, List.drop_drop, show 32 * s + (32 * t - 32 * s) = 32 * t by omega]
  · rw [Nat.max_eq_left h, List.drop_append_of_le_length (by omega), ← List.append_assoc, List.drop_take]
    congr 1
    have h1 : 32 * s = 32 * t + (32 * s - 32 * t) := by omega
    conv => rhs; rw [h1, List.take_add]
/-- Torn over what a burst made of it: the same block with a burst. -/
theorem torn_burst {b : List Int} (h : b.length = 256) (f mask : Nat) {s : Nat} (hs : s ≤ 8) : ∀ k, f + k ≤ 2048 → tornB b (flipK b f mask k) s = flipK b f ((mask >>> (256 * s - f)) <<< (256 * s - f)) k
  | 0, _ => by unfold tornB; exact List.take_append_drop _ _
  | k + 1, hk => by
    have ih := torn_burst h f mask hs k (by omega)
    have hX := (flipK_len b f mask k).trans h
    have hl : (b.take (32 * s)).length = 32 * s := by rw [List.length_take]; omega
    have hbit : ((mask >>> (256 * s - f)) <<< (256 * s - f)).testBit k = (decide (256 * s - f ≤ k) && mask.testBit k) := by
      rw [Nat.testBit_shiftLeft, Nat.testBit_shiftRight]
      by_cases hc : 256 * s - f ≤ k
      · rw [show 256 * s - f + (k - (256 * s - f)) = k by omega]
      · rw [decide_eq_false hc, Bool.false_and, Bool.false_and]
    conv => rhs; unfold flipK flipAt
    rw [hbit, ← ih]
    conv => lhs; unfold flipK flipAt
    by_cases hm : mask.testBit k = true
    · rw [if_pos hm, hm, Bool.and_true]
      by_cases hc : 256 * s - f ≤ k
      · rw [if_pos (decide_eq_true hc), tornB_get (by omega) (by omega)]
        unfold tornB
        rw [List.drop_set, if_neg (by omega), List.set_append_right _ _ (by omega), hl]
      · rw [if_neg (by rw [decide_eq_false hc]; decide)]
        unfold tornB
        rw [List.drop_set_of_lt (by omega)]
    · rw [if_neg hm, Bool.eq_false_iff.2 hm, Bool.and_false, if_neg (by decide)]
theorem torn_none (b : List Int) (s : Nat) : tornB b b s = b := List.take_append_drop _ _
/-- Hurt by a burst, written anew, torn: the same unit, or none. -/
theorem open_torn {u : UnitV} (hu : u.right) (hb : ∀ z ∈ u.body, 0 ≤ z ∧ z < 256) (f mask k : Nat) (hk : k ≤ 32) (hf : f + k ≤ 2048) {s : Nat} (hs : s ≤ 8) (h : (openB (tornB (sealB u) (flipK (sealB u) f mask k) s)).2 = 0) : (openB (tornB (sealB u) (flipK (sealB u) f mask k) s)).1 = u := by
  rw [torn_burst (seal_len hu.2.2) f mask hs k hf] at h ⊢
  rw [open_burst hu hb f _ k hk hf h, open_seal hu]
set_option maxRecDepth 10000 in
theorem small_rest {u : UnitV} (h : u.body.length ≤ 20) : (sealB u).drop 32 = List.replicate 224 0 := by
  rw [seal_drop32]
  unfold UnitV.rest
  rw [List.drop_eq_nil_of_le h, if_neg (by omega)]
  rfl
theorem small_drop {u : UnitV} (h : u.body.length ≤ 20) {s : Nat} (hs : 1 ≤ s) : (sealB u).drop (32 * s) = List.replicate (256 - 32 * s) 0 := by
  rw [show 32 * s = 32 + (32 * s - 32) by omega, ← List.drop_drop, small_rest h, List.drop_replicate]
  congr 1; omega
/-- A small unit over a small one, torn anywhere: the one or the other. -/
theorem small_torn {u v : UnitV} (hu : u.body.length ≤ 20) (hv : v.body.length ≤ 20) (s : Nat) : tornB (sealB v) (sealB u) s = if s = 0 then sealB u else sealB v := by
  unfold tornB
  by_cases h0 : s = 0
  · subst h0; rw [if_pos rfl]; rfl
  · rw [if_neg h0, small_drop hu (by omega), ← small_drop hv (by omega), List.take_append_drop]
/-- Wiped, written anew, torn: the same unit, or none. -/
theorem open_wiped {u : UnitV} (hu : u.right) {s : Nat} (hs : s ≤ 8) (h : (openB (tornB (sealB u) (List.replicate 256 0) s)).2 = 0) : (openB (tornB (sealB u) (List.replicate 256 0) s)).1 = u := by
  have hl := seal_len hu.2.2
  have h8 : s = 0 ∨ s = 8 ∨ (1 ≤ s ∧ s < 8) := by omega
  rcases h8 with rfl | rfl | ⟨h1, h2⟩
  · have e : tornB (sealB u) (List.replicate 256 0) 0 = List.replicate 256 0 := rfl
    rw [e, open_noughts] at h
    exact absurd h (by decide)
  · have e : tornB (sealB u) (List.replicate 256 0) 8 = sealB u := by
      unfold tornB
      rw [List.take_of_length_le (by omega), List.drop_replicate]; simp
    rw [e, open_seal hu]
  · obtain ⟨hr, hs2⟩ := open_some h
    have e255 : (tornB (sealB u) (List.replicate 256 0) s).getD 255 0 = 0 := by rw [tornB_get (by omega) (by omega)]; rfl
    have e7 : (tornB (sealB u) (List.replicate 256 0) s).getD 7 0 = (sealB u).getD 7 0 := by
      unfold tornB
      rw [List.getD_eq_getElem?_getD, List.getElem?_append_left (by rw [List.length_take]; omega), List.getElem?_take_of_lt (by omega), ← List.getD_eq_getElem?_getD]
    generalize (openB (tornB (sealB u) (List.replicate 256 0) s)).1 = v at *
    rw [← hs2] at e255 e7
    rw [seal_len7, seal_len7] at e7
    have hv : v.body.length ≤ 20 := by
      rcases Nat.lt_or_ge 20 v.body.length with h20 | h20
      · rw [show (255 : Nat) = 36 + 219 from rfl, getD_of_drop, seal_drop36] at e255
        unfold UnitV.rest at e255
        rw [if_pos h20, List.getD_eq_getElem?_getD, List.getElem?_append_right (by rw [padTo_len (by rw [List.length_drop]; have := hr.2.2; omega)]; exact Nat.le_refl _), padTo_len (by rw [List.length_drop]; have := hr.2.2; omega)] at e255
        exact absurd e255 (by decide)
      · exact h20
    have hu20 : u.body.length ≤ 20 := by omega
    have e : tornB (sealB u) (List.replicate 256 0) s = sealB u := by
      unfold tornB
      rw [List.drop_replicate, ← small_drop hu20 h1, List.take_append_drop]
    rw [e] at hs2
    have h3 := open_seal hu
    rw [← hs2, open_seal hr] at h3
    exact congrArg Prod.fst h3
/-- A sealed block is not noughts. -/
theorem seal_some {u : UnitV} (hu : u.right) : sealB u ≠ List.replicate 256 0 := by
  intro e
  have h := open_seal hu
  rw [e, open_noughts] at h
  exact absurd (show (4 : Int) = 0 from congrArg Prod.snd h) (by decide)
end Go.Proofs.YtmmebaphhgggfaaGreatDoor
