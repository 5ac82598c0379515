/- Plain mathematics of the table: four bits of a word at once, and eight bits at once, by what 32 shifts make of them. -/
/- A sealed block that is hurt is not opened: plain mathematics. -/
/- Marks, their units and blocks: plain mathematics. -/
import Derived.Test.YtpdfmpegcejmkaaGreatDoorDevModel
import Derived.Test.YtpdfmpegcejmkaaGreatDoorUnitModel
namespace Go.Proofs.YtpdfmpegcejmkaaGreatDoor.Mx

/-- What 32 shifts make of four bits of row r. -/
def tab (r n : Nat) : BitVec 32 := shN 32 (BitVec.ofNat 32 n <<< (4 * r))
def nib (r : Nat) (x : BitVec 32) : BitVec 32 := (x >>> (4 * r)) &&& 15#32
theorem and_xor (x y m : BitVec 32) : (x ^^^ y) &&& m = (x &&& m) ^^^ (y &&& m) := by
  apply BitVec.eq_of_getLsbD_eq
  intro i _
  rw [BitVec.getLsbD_and, BitVec.getLsbD_xor, BitVec.getLsbD_xor, BitVec.getLsbD_and, BitVec.getLsbD_and]
  cases x.getLsbD i <;> cases y.getLsbD i <;> cases m.getLsbD i <;> rfl
theorem nib_xor (r : Nat) (x y : BitVec 32) : nib r (x ^^^ y) = nib r x ^^^ nib r y := by
  unfold nib; rw [BitVec.ushiftRight_xor_distrib, and_xor]
theorem nib_nat (r : Nat) (x : BitVec 32) : BitVec.ofNat 32 (x.toNat / 2 ^ (4 * r) % 16) = nib r x := by
  apply BitVec.eq_of_toNat_eq
  unfold nib
  rw [BitVec.toNat_ofNat, BitVec.toNat_and, BitVec.toNat_ushiftRight, Nat.shiftRight_eq_div_pow, show (15#32 : BitVec 32).toNat = 15 by decide, nat_mask4, Nat.mod_eq_of_lt]
  omega
theorem tab_nib (r : Nat) (x : BitVec 32) : tab r (x.toNat / 2 ^ (4 * r) % 16) = shN 32 (nib r x <<< (4 * r)) := by unfold tab; rw [nib_nat]
def nibs (x : BitVec 32) : BitVec 32 := nib 0 x <<< 0 ^^^ nib 1 x <<< 4 ^^^ nib 2 x <<< 8 ^^^ nib 3 x <<< 12 ^^^ nib 4 x <<< 16 ^^^ nib 5 x <<< 20 ^^^ nib 6 x <<< 24 ^^^ nib 7 x <<< 28
theorem xor_lc (a b c : BitVec 32) : a ^^^ (b ^^^ c) = b ^^^ (a ^^^ c) := by rw [← BitVec.xor_assoc, BitVec.xor_comm a, BitVec.xor_assoc]
theorem nibs_xor (x y : BitVec 32) : nibs (x ^^^ y) = nibs x ^^^ nibs y := by
  unfold nibs
  simp only [nib_xor, BitVec.shiftLeft_xor_distrib]
  simp only [BitVec.xor_assoc, xor_lc]
theorem basis_of (f g : BitVec 32 → BitVec 32) (h : (List.range 32).all (fun i => f (1#32 <<< i) == g (1#32 <<< i)) = true) : ∀ i, i < 32 → f (1#32 <<< i) = g (1#32 <<< i) := by
  intro i hi
  rw [List.all_eq_true] at h
  exact eq_of_beq (h i (List.mem_range.2 hi))
theorem nibs_basis : (List.range 32).all (fun i => nibs (1#32 <<< i) == 1#32 <<< i) = true := by decide +kernel
theorem nibs_all (x : BitVec 32) : nibs x = x :=
  lin_ext nibs (fun x => x) nibs_xor (fun _ _ => rfl) (basis_of nibs (fun x => x) nibs_basis) x
/-- Eight tables, one word. -/
theorem word_tab (x : BitVec 32) :
    tab 0 (x.toNat % 16) ^^^ tab 1 (x.toNat / 16 % 16) ^^^ tab 2 (x.toNat / 256 % 16) ^^^ tab 3 (x.toNat / 4096 % 16) ^^^ tab 4 (x.toNat / 65536 % 16) ^^^ tab 5 (x.toNat / 1048576 % 16) ^^^ tab 6 (x.toNat / 16777216 % 16) ^^^ tab 7 (x.toNat / 268435456 % 16) = shN 32 x := by
  have h0 := tab_nib 0 x
  have h1 := tab_nib 1 x
  have h2 := tab_nib 2 x
  have h3 := tab_nib 3 x
  have h4 := tab_nib 4 x
  have h5 := tab_nib 5 x
  have h6 := tab_nib 6 x
  have h7 := tab_nib 7 x
  simp only [Nat.reduceMul, Nat.reducePow, Nat.div_one] at h0 h1 h2 h3 h4 h5 h6 h7
  rw [h0, h1, h2, h3, h4, h5, h6, h7, ← shN_xor, ← shN_xor, ← shN_xor, ← shN_xor, ← shN_xor, ← shN_xor, ← shN_xor]
  exact congrArg (shN 32) (nibs_all x)

/-! ### Bytes -/
def byte (y : BitVec 32) : BitVec 32 := y &&& 255#32
theorem byte_xor (x y : BitVec 32) : byte (x ^^^ y) = byte x ^^^ byte y := and_xor x y _
theorem back8_basis : (List.range 32).all (fun i => shN 8 (byte (1#32 <<< i) <<< 8) == byte (1#32 <<< i)) = true := by decide +kernel
theorem back8_lin (a b : BitVec 32) : shN 8 (byte (a ^^^ b) <<< 8) = shN 8 (byte a <<< 8) ^^^ shN 8 (byte b <<< 8) := by rw [byte_xor, BitVec.shiftLeft_xor_distrib, shN_xor]
theorem back8 (y : BitVec 32) : shN 8 (byte y <<< 8) = byte y :=
  lin_ext (fun y => shN 8 (byte y <<< 8)) byte back8_lin byte_xor (basis_of (fun y => shN 8 (byte y <<< 8)) byte back8_basis) y
theorem back16_basis : (List.range 32).all (fun i => shN 16 (byte (1#32 <<< i) <<< 16) == byte (1#32 <<< i)) = true := by decide +kernel
theorem back16_lin (a b : BitVec 32) : shN 16 (byte (a ^^^ b) <<< 16) = shN 16 (byte a <<< 16) ^^^ shN 16 (byte b <<< 16) := by rw [byte_xor, BitVec.shiftLeft_xor_distrib, shN_xor]
theorem back16 (y : BitVec 32) : shN 16 (byte y <<< 16) = byte y :=
  lin_ext (fun y => shN 16 (byte y <<< 16)) byte back16_lin byte_xor (basis_of (fun y => shN 16 (byte y <<< 16)) byte back16_basis) y
theorem back24_basis : (List.range 32).all (fun i => shN 24 (byte (1#32 <<< i) <<< 24) == byte (1#32 <<< i)) = true := by decide +kernel
theorem back24_lin (a b : BitVec 32) : shN 24 (byte (a ^^^ b) <<< 24) = shN 24 (byte a <<< 24) ^^^ shN 24 (byte b <<< 24) := by rw [byte_xor, BitVec.shiftLeft_xor_distrib, shN_xor]
theorem back24 (y : BitVec 32) : shN 24 (byte y <<< 24) = byte y :=
  lin_ext (fun y => shN 24 (byte y <<< 24)) byte back24_lin byte_xor (basis_of (fun y => shN 24 (byte y <<< 24)) byte back24_basis) y
theorem byte_of (z : Int) (h0 : 0 ≤ z) (h1 : z < 256) : byte (BitVec.ofInt 32 z) = BitVec.ofInt 32 z := by
  obtain ⟨n, rfl⟩ := Int.eq_ofNat_of_zero_le h0
  rw [BitVec.ofInt_natCast]
  apply BitVec.eq_of_toNat_eq
  unfold byte
  rw [BitVec.toNat_and, BitVec.toNat_ofNat, show (255#32 : BitVec 32).toNat = 255 by decide, nat_mask8]
  omega
def pieces (x : BitVec 32) : BitVec 32 := (x >>> 8) ^^^ shN 32 ((nib 0 (byte x)) <<< 24) ^^^ shN 32 ((nib 1 (byte x)) <<< 28)
theorem pieces_xor (a b : BitVec 32) : pieces (a ^^^ b) = pieces a ^^^ pieces b := by
  unfold pieces
  simp only [byte_xor, nib_xor, BitVec.shiftLeft_xor_distrib, BitVec.ushiftRight_xor_distrib, shN_xor]
  simp only [BitVec.xor_assoc, xor_lc]
theorem pieces_basis : (List.range 32).all (fun i => pieces (1#32 <<< i) == shN 8 (1#32 <<< i)) = true := by decide +kernel
/-- One byte by two tables. -/
theorem byte_tab (c : BitVec 32) (z : Int) (h0 : 0 ≤ z) (h1 : z < 256) :
    (c >>> 8) ^^^ shN 32 ((nib 0 (byte (c ^^^ BitVec.ofInt 32 z))) <<< 24) ^^^ shN 32 ((nib 1 (byte (c ^^^ BitVec.ofInt 32 z))) <<< 28) = shN 8 (c ^^^ BitVec.ofInt 32 z) := by
  have hz : BitVec.ofInt 32 z >>> 8 = 0#32 := by
    rw [← byte_of z h0 h1]
    apply BitVec.eq_of_getLsbD_eq
    intro i _
    unfold byte
    rw [BitVec.getLsbD_ushiftRight, BitVec.getLsbD_and, show (255#32 : BitVec 32) = BitVec.ofNat 32 (2 ^ 8 - 1) by rfl, BitVec.getLsbD_ofNat, Nat.testBit_two_pow_sub_one]
    simp
  have hc : c >>> 8 = (c ^^^ BitVec.ofInt 32 z) >>> 8 := by rw [BitVec.ushiftRight_xor_distrib, hz]; simp
  rw [hc]
  exact lin_ext pieces (shN 8) pieces_xor (shN_xor 8) (basis_of pieces (shN 8) pieces_basis) _
/-- Four bytes, as a word. -/
def word (z0 z1 z2 z3 : Int) : BitVec 32 := BitVec.ofInt 32 z0 ^^^ BitVec.ofInt 32 z1 <<< 8 ^^^ BitVec.ofInt 32 z2 <<< 16 ^^^ BitVec.ofInt 32 z3 <<< 24
theorem crc_word (c : BitVec 32) (z0 z1 z2 z3 : Int) (g1 : 0 ≤ z1 ∧ z1 < 256) (g2 : 0 ≤ z2 ∧ z2 < 256) (g3 : 0 ≤ z3 ∧ z3 < 256) :
    crc c [z0, z1, z2, z3] = shN 32 (c ^^^ word z0 z1 z2 z3) := by
  have b1 := back8 (BitVec.ofInt 32 z1)
  have b2 := back16 (BitVec.ofInt 32 z2)
  have b3 := back24 (BitVec.ofInt 32 z3)
  rw [byte_of _ g1.1 g1.2] at b1
  rw [byte_of _ g2.1 g2.2] at b2
  rw [byte_of _ g3.1 g3.2] at b3
  show shN 8 (shN 8 (shN 8 (shN 8 (c ^^^ BitVec.ofInt 32 z0) ^^^ BitVec.ofInt 32 z1) ^^^ BitVec.ofInt 32 z2) ^^^ BitVec.ofInt 32 z3) = _
  rw [← b1, ← shN_xor, ← shN_add, ← b2, ← shN_xor, ← shN_add, ← b3, ← shN_xor, ← shN_add]
  unfold word
  simp only [BitVec.xor_assoc, Nat.reduceAdd]
theorem or_of_apart (x y : BitVec 32) (h : x &&& y = 0#32) : x ||| y = x ^^^ y := by
  apply BitVec.eq_of_getLsbD_eq
  intro i hi
  have := congrArg (fun v : BitVec 32 => v.getLsbD i) h
  simp only [BitVec.getLsbD_and, BitVec.getLsbD_zero] at this
  rw [BitVec.getLsbD_or, BitVec.getLsbD_xor]
  revert this
  cases x.getLsbD i <;> cases y.getLsbD i <;> simp
theorem small_bit (n k i : Nat) (h : n < 2 ^ k) (hi : k ≤ i) : n.testBit i = false :=
  Nat.testBit_lt_two_pow (Nat.lt_of_lt_of_le h (Nat.pow_le_pow_right (by omega) hi))
theorem apart (n m k : Nat) (h : n < 2 ^ k) : BitVec.ofNat 32 n &&& (BitVec.ofNat 32 m <<< k) = 0#32 := by
  apply BitVec.eq_of_getLsbD_eq
  intro i hi
  rw [BitVec.getLsbD_and, BitVec.getLsbD_ofNat, BitVec.getLsbD_shiftLeft, BitVec.getLsbD_zero]
  by_cases hk : k ≤ i
  · rw [small_bit n k i h hk]; simp
  · simp; omega
theorem mul_shift (n k : Nat) : BitVec.ofNat 32 (n * 2 ^ k) = BitVec.ofNat 32 n <<< k := by
  apply BitVec.eq_of_toNat_eq
  rw [BitVec.toNat_shiftLeft, BitVec.toNat_ofNat, BitVec.toNat_ofNat, Nat.shiftLeft_eq, Nat.mod_mul_mod]
theorem or_step (n m k : Nat) (h : n < 2 ^ k) : BitVec.ofNat 32 n ||| BitVec.ofNat 32 (m * 2 ^ k) = BitVec.ofNat 32 (n + m * 2 ^ k) := by
  apply BitVec.eq_of_getLsbD_eq
  intro i hi
  rw [BitVec.getLsbD_or, BitVec.getLsbD_ofNat, BitVec.getLsbD_ofNat, BitVec.getLsbD_ofNat]
  simp only [hi, decide_true, Bool.true_and]
  rw [← Nat.testBit_or, Nat.add_comm, Nat.mul_comm m, Nat.two_pow_add_eq_or_of_lt h, Nat.or_comm]
theorem or_xor (n m k : Nat) (h : n < 2 ^ k) : BitVec.ofNat 32 n ||| BitVec.ofNat 32 (m * 2 ^ k) = BitVec.ofNat 32 n ^^^ (BitVec.ofNat 32 m <<< k) := by
  rw [mul_shift, or_of_apart _ _ (apart n m k h)]
/-- Four bytes, as the program puts them together. -/
theorem word_or (n0 n1 n2 n3 : Nat) (h0 : n0 < 256) (h1 : n1 < 256) (h2 : n2 < 256) :
    ((BitVec.ofNat 32 n0 ||| BitVec.ofNat 32 (n1 * 2 ^ 8)) ||| BitVec.ofNat 32 (n2 * 2 ^ 16)) ||| BitVec.ofNat 32 (n3 * 2 ^ 24) =
      BitVec.ofNat 32 n0 ^^^ (BitVec.ofNat 32 n1 <<< 8) ^^^ (BitVec.ofNat 32 n2 <<< 16) ^^^ (BitVec.ofNat 32 n3 <<< 24) := by
  have a1 := or_step n0 n1 8 h0
  have a2 := or_step (n0 + n1 * 2 ^ 8) n2 16 (by omega)
  have x1 := or_xor n0 n1 8 h0
  have x2 := or_xor (n0 + n1 * 2 ^ 8) n2 16 (by omega)
  have x3 := or_xor (n0 + n1 * 2 ^ 8 + n2 * 2 ^ 16) n3 24 (by omega)
  rw [a1, a2, x3, ← a2, x2, ← a1, x1]
end Go.Proofs.YtpdfmpegcejmkaaGreatDoor.Mx
namespace Go.Proofs.YtpdfmpegcejmkaaGreatDoor
open Mx
theorem getD_bd {b : List Int} (h : ∀ z ∈ b, 0 ≤ z ∧ z < 256) (i : Nat) : 0 ≤ b.getD i 0 ∧ b.getD i 0 < 256 := by
  rw [List.getD_eq_getElem?_getD]
  rcases Nat.lt_or_ge i b.length with hi | hi
  · rw [List.getElem?_eq_getElem hi]; exact h _ (List.getElem_mem hi)
  · rw [List.getElem?_eq_none hi]; exact ⟨by decide, by decide⟩
theorem four_of {b : List Int} (h : b.length = 256) : (b.drop 28).take 4 = [b.getD 28 0, b.getD 29 0, b.getD 30 0, b.getD 31 0] := by
  apply List.ext_getElem?
  intro i
  rw [List.getElem?_take]
  have hi : i = 0 ∨ i = 1 ∨ i = 2 ∨ i = 3 ∨ 4 ≤ i := by omega
  rcases hi with rfl | rfl | rfl | rfl | hi
  · rw [if_pos (by omega), List.getElem?_drop, List.getElem?_eq_getElem (by omega)]; simp [List.getD_eq_getElem?_getD, h]
  · rw [if_pos (by omega), List.getElem?_drop, List.getElem?_eq_getElem (by omega)]; simp [List.getD_eq_getElem?_getD, h]
  · rw [if_pos (by omega), List.getElem?_drop, List.getElem?_eq_getElem (by omega)]; simp [List.getD_eq_getElem?_getD, h]
  · rw [if_pos (by omega), List.getElem?_drop, List.getElem?_eq_getElem (by omega)]; simp [List.getD_eq_getElem?_getD, h]
  · rw [if_neg (by omega), List.getElem?_eq_none (by simp; omega)]
theorem word4_unle {b : List Int} (h : BlkOk b) : (((word4 b 28).toNat : Nat) : Int) = unle ((b.drop 28).take 4) := by
  rw [four_of h.1]
  unfold word4
  obtain ⟨h0, g0⟩ := getD_bd h.2 28
  obtain ⟨h1, g1⟩ := getD_bd h.2 29
  obtain ⟨h2, g2⟩ := getD_bd h.2 30
  obtain ⟨h3, g3⟩ := getD_bd h.2 31
  show (((BitVec.ofInt 32 (b.getD 28 0) ^^^ BitVec.ofInt 32 (b.getD 29 0) <<< 8 ^^^ BitVec.ofInt 32 (b.getD 30 0) <<< 16 ^^^ BitVec.ofInt 32 (b.getD 31 0) <<< 24).toNat : Nat) : Int) = _
  generalize b.getD 28 0 = z0 at *
  generalize b.getD 29 0 = z1 at *
  generalize b.getD 30 0 = z2 at *
  generalize b.getD 31 0 = z3 at *
  obtain ⟨n0, rfl⟩ := Int.eq_ofNat_of_zero_le h0
  obtain ⟨n1, rfl⟩ := Int.eq_ofNat_of_zero_le h1
  obtain ⟨n2, rfl⟩ := Int.eq_ofNat_of_zero_le h2
  obtain ⟨n3, rfl⟩ := Int.eq_ofNat_of_zero_le h3
  rw [BitVec.ofInt_natCast, BitVec.ofInt_natCast, BitVec.ofInt_natCast, BitVec.ofInt_natCast, ← word_or n0 n1 n2 n3 (by omega) (by omega) (by omega), or_step _ _ _ (by omega), or_step _ _ _ (by omega), or_step _ _ _ (by omega), BitVec.toNat_ofNat]
  simp only [unle]
  omega
theorem fits_resid {b : List Int} (h : BlkOk b) : fitsB b ↔ resid b = 0xFFFFFFFF#32 := by
  unfold fitsB resid
  rw [← word4_unle h]
  unfold sum
  have hx : ∀ x y : BitVec 32, (((y.toNat : Nat) : Int) = (((~~~ x).toNat : Nat) : Int)) ↔ x ^^^ y = 0xFFFFFFFF#32 := by
    intro x y
    constructor
    · intro e
      have e : y = ~~~ x := BitVec.eq_of_toNat_eq (by omega)
      rw [e, not_eq_xor, ← BitVec.xor_assoc, BitVec.xor_self, BitVec.zero_xor]
    · intro e
      have e : y = ~~~ x := by rw [not_eq_xor, ← e, ← BitVec.xor_assoc, BitVec.xor_self, BitVec.zero_xor]
      rw [e]
  exact hx _ _
theorem open_fits {b : List Int} (h : (openB b).2 = 0) : fitsB b ∧ GapOk b := by
  obtain ⟨_, h2⟩ := open_some h
  rw [← h2]
  exact ⟨seal_fits _, seal_gap _⟩
/-- A sealed block with a burst is not opened, unless nothing is turned. -/
theorem open_burst {u : UnitV} (hu : u.right) (hb : ∀ z ∈ u.body, 0 ≤ z ∧ z < 256) (f mask k : Nat) (hk : k ≤ 32) (hf : f + k ≤ 2048) (h : (openB (flipK (sealB u) f mask k)).2 = 0) : flipK (sealB u) f mask k = sealB u := by
  have ho := seal_ok hu hb
  obtain ⟨h1, h2⟩ := open_fits h
  refine burst_none ho f mask k hk hf (seal_gap u) h2 ?_
  rw [(fits_resid (flipK_ok ho f mask k)).1 h1, (fits_resid ho).1 (seal_fits u)]
/-- What is written anew, torn: so many first sectors of it, over what was there. -/
def tornB (b c : List Int) (s : Nat) : List Int := b.take (32 * s) ++ c.drop (32 * s)
theorem tornB_get {b c : List Int} {s q : Nat} (hs : 32 * s ≤ b.length) (hq : 32 * s ≤ q) : (tornB b c s).getD q 0 = c.getD q 0 := by
  have hl : (b.take (32 * s)).length = 32 * s := by rw [List.length_take]; omega
  unfold tornB
  rw [List.getD_eq_getElem?_getD, List.getElem?_append_right (by omega), hl, List.getElem?_drop, show 32 * s + (q - 32 * s) = q by omega, ← List.getD_eq_getElem?_getD]
theorem tornB_over {b c : List Int} {s t : Nat} (hb : b.length = 256) (hs : s ≤ 8) : tornB b (tornB b c s) t = tornB b c (max s t) := by
  have hl : (b.take (32 * s)).length = 32 * s := by rw [List.length_take]; omega
  unfold tornB
  rcases Nat.le_total s t with h | h
  · rw [Nat.max_eq_right h, List.drop_append, hl, List.drop_eq_nil_of_le (by omega), List.nil_append, List.drop_drop, show 32 * s + (32 * t - 32 * s) = 32 * t by omega]
  · rw [Nat.max_eq_left h, List.drop_append_of_le_length (by omega), ← List.append_assoc, List.drop_take]
    congr 1
    have h1 : 32 * s = 32 * t + (32 * s - 32 * t) := by omega
    conv => rhs; rw [h1, List.take_add]
/-- Torn over what a burst made of it: the same block with a burst. -/
theorem torn_burst {b : List Int} (h : b.length = 256) (f mask : Nat) {s : Nat} (hs : s ≤ 8) : ∀ k, f + k ≤ 2048 → tornB b (flipK b f mask k) s = flipK b f ((mask >>> (256 * s - f)) <<< (256 * s - f)) k
  | 0, _ => by unfold tornB; exact List.take_append_drop _ _
  | k + 1, hk => by
    have ih := torn_burst h f mask hs k (by omega)
    have hX := (flipK_len b f mask k).trans h
    have hl : (b.take (32 * s)).length = 32 * s := by rw [List.length_take]; omega
    have hbit : ((mask >>> (256 * s - f)) <<< (256 * s - f)).testBit k = (decide (256 * s - f ≤ k) && mask.testBit k) := by
      rw [Nat.testBit_shiftLeft, Nat.testBit_shiftRight]
      by_cases hc : 256 * s - f ≤ k
      · rw [show 256 * s - f + (k - (256 * s - f)) = k by omega]
      · rw [decide_eq_false hc, Bool.false_and, Bool.false_and]
    conv => rhs; unfold flipK flipAt
    rw [hbit, ← ih]
    conv => lhs; unfold flipK flipAt
    by_cases hm : mask.testBit k = true
    · rw [if_pos hm, hm, Bool.and_true]
      by_cases hc : 256 * s - f ≤ k
      · rw [if_pos (decide_eq_true hc), tornB_get (by omega) (by omega)]
        unfold tornB
        rw [List.drop_set, if_neg (by omega), List.set_append_right _ _ (by omega), hl]
      · rw [if_neg (by rw [decide_eq_false hc]; decide)]
        unfold tornB
        rw [List.drop_set_of_lt (by omega)]
    · rw [if_neg hm, Bool.eq_false_iff.2 hm, Bool.and_false, if_neg (by decide)]
theorem torn_none (b : List Int) (s : Nat) : tornB b b s = b := List.take_append_drop _ _
/-- Hurt by a burst, written anew, torn: the same unit, or none. -/
theorem open_torn {u : UnitV} (hu : u.right) (hb : ∀ z ∈ u.body, 0 ≤ z ∧ z < 256) (f mask k : Nat) (hk : k ≤ 32) (hf : f + k ≤ 2048) {s : Nat} (hs : s ≤ 8) (h : (openB (tornB (sealB u) (flipK (sealB u) f mask k) s)).2 = 0) : (openB (tornB (sealB u) (flipK (sealB u) f mask k) s)).1 = u := by
  rw [torn_burst (seal_len hu.2.2) f mask hs k hf] at h ⊢
  rw [open_burst hu hb f _ k hk hf h, open_seal hu]
set_option maxRecDepth 10000 in
theorem small_rest {u : UnitV} (h : u.body.length ≤ 20) : (sealB u).drop 32 = List.replicate 224 0 := by
  rw [seal_drop32]
  unfold UnitV.rest
  rw [List.drop_eq_nil_of_le h, if_neg (by omega)]
  rfl
theorem small_drop {u : UnitV} (h : u.body.length ≤ 20) {s : Nat} (hs : 1 ≤ s) : (sealB u).drop (32 * s) = List.replicate (256 - 32 * s) 0 := by
  rw [show 32 * s = 32 + (32 * s - 32) by omega, ← List.drop_drop, small_rest h, List.drop_replicate]
  congr 1; omega
/-- A small unit over a small one, torn anywhere: the one or the other. -/
theorem small_torn {u v : UnitV} (hu : u.body.length ≤ 20) (hv : v.body.length ≤ 20) (s : Nat) : tornB (sealB v) (sealB u) s = if s = 0 then sealB u else sealB v := by
  unfold tornB
  by_cases h0 : s = 0
  · subst h0; rw [if_pos rfl]; rfl
  · rw [if_neg h0, small_drop hu (by omega), ← small_drop hv (by omega), List.take_append_drop]
/-- Wiped, written anew, torn: the same unit, or none. -/
theorem open_wiped {u : UnitV} (hu : u.right) {s : Nat} (hs : s ≤ 8) (h : (openB (tornB (sealB u) (List.replicate 256 0) s)).2 = 0) : (openB (tornB (sealB u) (List.replicate 256 0) s)).1 = u := by
  have hl := seal_len hu.2.2
  have h8 : s = 0 ∨ s = 8 ∨ (1 ≤ s ∧ s < 8) := by omega
  rcases h8 with rfl | rfl | ⟨h1, h2⟩
  · have e : tornB (sealB u) (List.replicate 256 0) 0 = List.replicate 256 0 := rfl
    rw [e, open_noughts] at h
    exact absurd h (by decide)
  · have e : tornB (sealB u) (List.replicate 256 0) 8 = sealB u := by
      unfold tornB
      rw [List.take_of_length_le (by omega), List.drop_replicate]; simp
    rw [e, open_seal hu]
  · obtain ⟨hr, hs2⟩ := open_some h
    have e255 : (tornB (sealB u) (List.replicate 256 0) s).getD 255 0 = 0 := by rw [tornB_get (by omega) (by omega)]; rfl
    have e7 : (tornB (sealB u) (List.replicate 256 0) s).getD 7 0 = (sealB u).getD 7 0 := by
      unfold tornB
      rw [List.getD_eq_getElem?_getD, List.getElem?_append_left (by rw [List.length_take]; omega), List.getElem?_take_of_lt (by omega), ← List.getD_eq_getElem?_getD]
    generalize (openB (tornB (sealB u) (List.replicate 256 0) s)).1 = v at *
    rw [← hs2] at e255 e7
    rw [seal_len7, seal_len7] at e7
    have hv : v.body.length ≤ 20 := by
      rcases Nat.lt_or_ge 20 v.body.length with h20 | h20
      · rw [show (255 : Nat) = 36 + 219 from rfl, getD_of_drop, seal_drop36] at e255
        unfold UnitV.rest at e255
        rw [if_pos h20, List.getD_eq_getElem?_getD, List.getElem?_append_right (by rw [padTo_len (by rw [List.length_drop]; have := hr.2.2; omega)]; exact Nat.le_refl _), padTo_len (by rw [List.length_drop]; have := hr.2.2; omega)] at e255
        exact absurd e255 (by decide)
      · exact h20
    have hu20 : u.body.length ≤ 20 := by omega
    have e : tornB (sealB u) (List.replicate 256 0) s = sealB u := by
      unfold tornB
      rw [List.drop_replicate, ← small_drop hu20 h1, List.take_append_drop]
    rw [e] at hs2
    have h3 := open_seal hu
    rw [← hs2, open_seal hr] at h3
    exact congrArg Prod.fst h3
/-- A sealed block is not noughts. -/
theorem seal_some {u : UnitV} (hu : u.right) : sealB u ≠ List.replicate 256 0 := by
  intro e
  have h := open_seal hu
  rw [e, open_noughts] at h
  exact absurd (show (4 : Int) = 0 from congrArg Prod.snd h) (by decide)
end Go.Proofs.YtpdfmpegcejmkaaGreatDoor
namespace Go.Proofs.YtpdfmpegcejmkaaGreatDoor
open Mx
structure MarkV where
  ver : Int
  idx : Int
  term : Int
  kind : Int
  void : Int
/-- An ident is right. -/
def knownI (idx term kind : Int) : Prop := (idx = 0 ∧ term = 0 ∧ kind = 0) ∨ ((1 ≤ idx ∧ idx ≤ 1099511627776) ∧ (0 ≤ term ∧ term ≤ 1099511627776) ∧ (1 ≤ kind ∧ kind ≤ 3))
instance (i t k : Int) : Decidable (knownI i t k) := by unfold knownI; exact inferInstance
def MarkV.right (m : MarkV) : Prop := (0 ≤ m.ver ∧ m.ver ≤ 1099511627776) ∧ (0 ≤ m.void ∧ m.void ≤ 1099511627776) ∧ knownI m.idx m.term m.kind
instance (m : MarkV) : Decidable m.right := by unfold MarkV.right; exact inferInstance
def MarkV.val (m : MarkV) : Go.Value := .agg #[.int .i64 m.ver, .int .i64 m.idx, .int .i64 m.term, .int .i64 m.kind, .int .i64 m.void]
def MarkV.unit (m : MarkV) (k : Int) : UnitV := ⟨k, m.ver, le 6 m.idx ++ (le 6 m.term ++ (le 1 m.kind ++ le 6 m.void))⟩
def noMark : MarkV := ⟨0, 0, 0, 0, 0⟩
theorem noMark_right : noMark.right := by decide
/-- The two sorts, and where the first block of each is. -/
def sortK (k : Int) : Prop := k = 2 ∨ k = 3
instance (k : Int) : Decidable (sortK k) := by unfold sortK; exact inferInstance
def placeK (k : Int) : Nat := if k = 2 then 2 else 4
/-- The mark of a version and a body. -/
def bodyK (ver : Int) (bs : List Int) : MarkV := ⟨ver, unle (bs.take 6), unle ((bs.drop 6).take 6), unle ((bs.drop 12).take 1), unle ((bs.drop 13).take 6)⟩
def partedK (ver : Int) (bs : List Int) : MarkV × Int := if bs.length = 19 ∧ (bodyK ver bs).right then (bodyK ver bs, 0) else (noMark, 4)
/-- The mark, of a sort, whose unit's block this is. -/
def markB (k : Int) (b : List Int) : MarkV × Int := if ¬ sortK k then (noMark, 2) else if (asB b k (-1)).2 ≠ 0 then (noMark, (asB b k (-1)).2) else partedK (openB b).1.num (asB b k (-1)).1
section
variable {m : MarkV} {k : Int}
theorem mark_len (m : MarkV) (k : Int) : (m.unit k).body.length = 19 := by show (le 6 _ ++ (le 6 _ ++ (le 1 _ ++ le 6 _))).length = 19; simp only [List.length_append, le_len]
theorem mark_right (h : m.right) (hk : sortK k) : (m.unit k).right := ⟨by show 1 ≤ k ∧ k ≤ 8; rcases hk with rfl | rfl <;> decide, h.1, by rw [mark_len]; decide⟩
theorem mark_bd (m : MarkV) (k : Int) : ∀ z ∈ (m.unit k).body, 0 ≤ z ∧ z < 256 := by
  intro z hz
  rcases List.mem_append.1 hz with h | h
  · exact le_bd _ _ z h
  · rcases List.mem_append.1 h with h | h
    · exact le_bd _ _ z h
    · rcases List.mem_append.1 h with h | h
      · exact le_bd _ _ z h
      · exact le_bd _ _ z h
theorem mark_ok (h : m.right) (hk : sortK k) : BlkOk (sealB (m.unit k)) := seal_ok (mark_right h hk) (mark_bd m k)
theorem take_le {n : Nat} {x : Int} {l : List Int} : (le n x ++ l).take n = le n x := by rw [List.take_append_of_le_length (by rw [le_len]; exact Nat.le_refl _), List.take_of_length_le (by rw [le_len]; exact Nat.le_refl _)]
theorem drop_le {n : Nat} {x : Int} {l : List Int} : (le n x ++ l).drop n = l := by rw [List.drop_append_of_le_length (by rw [le_len]; exact Nat.le_refl _), List.drop_eq_nil_of_le (by rw [le_len]; exact Nat.le_refl _), List.nil_append]
theorem known_bd {i t x : Int} (h : knownI i t x) : (0 ≤ i ∧ i ≤ 1099511627776) ∧ (0 ≤ t ∧ t ≤ 1099511627776) ∧ (0 ≤ x ∧ x ≤ 3) := by
  rcases h with ⟨rfl, rfl, rfl⟩ | ⟨h1, h2, h3⟩
  · decide
  · omega
theorem parted_mark (h : m.right) : partedK m.ver (m.unit k).body = (m, 0) := by
  obtain ⟨h1, h2, h3⟩ := known_bd h.2.2
  have e1 : (m.unit k).body.take 6 = le 6 m.idx := take_le
  have d1 : (m.unit k).body.drop 6 = le 6 m.term ++ (le 1 m.kind ++ le 6 m.void) := drop_le
  have d2 : (m.unit k).body.drop 12 = le 1 m.kind ++ le 6 m.void := by rw [show (12 : Nat) = 6 + 6 from rfl, ← List.drop_drop, d1, drop_le]
  have d3 : (m.unit k).body.drop 13 = le 6 m.void := by rw [show (13 : Nat) = 12 + 1 from rfl, ← List.drop_drop, d2, drop_le]
  have hm : bodyK m.ver (m.unit k).body = m := by
    unfold bodyK
    rw [e1, d1, d2, d3, take_le, take_le, List.take_of_length_le (by rw [le_len]; exact Nat.le_refl _), unle_le 6 _ h1.1 (by omega), unle_le 6 _ h2.1 (by omega), unle_le 1 _ h3.1 (by omega), unle_le 6 _ h.2.1.1 (by have := h.2.1.2; omega)]
  unfold partedK
  rw [hm, if_pos ⟨mark_len m k, h⟩]
theorem mark_seal (h : m.right) (hk : sortK k) : markB k (sealB (m.unit k)) = (m, 0) := by
  have ho := open_seal (mark_right h hk)
  have ha : asB (sealB (m.unit k)) k (-1) = ((m.unit k).body, 0) := by
    unfold asB
    rw [ho, if_neg (fun hn => hn rfl), if_neg]
    rintro (h1 | h1)
    · exact h1 rfl
    · exact absurd h1.1 (by decide)
  unfold markB
  rw [if_neg (fun hn => hn hk), ha, ho, if_neg (fun hn => hn rfl)]
  exact parted_mark (k := k) h
end
theorem markB_right {k : Int} {b : List Int} (h : (markB k b).2 = 0) : (markB k b).1.right := by
  unfold markB partedK at h ⊢
  split at h
  · exact absurd h (by decide)
  · next h0 =>
    rw [if_neg h0]
    split at h
    · next h1 => exact absurd h h1
    · next h1 =>
      rw [if_neg h1]
      split at h
      · next h2 => rw [if_pos h2]; exact h2.2
      · exact absurd h (by decide)
theorem markB_else {k : Int} {b : List Int} (h : (markB k b).2 ≠ 0) : (markB k b).1 = noMark := by
  unfold markB partedK at h ⊢
  split at h
  · next h0 => rw [if_pos h0]
  · next h0 =>
    rw [if_neg h0]
    split at h
    · next h1 => rw [if_pos h1]
    · next h1 =>
      rw [if_neg h1]
      split at h
      · exact absurd rfl h
      · next h2 => rw [if_neg h2]
theorem markB_none {k : Int} {b : List Int} (h : (openB b).2 ≠ 0) : (markB k b).2 ≠ 0 := by
  have ha : asB b k (-1) = ([], (openB b).2) := by unfold asB; rw [if_pos h]
  unfold markB
  split
  · decide
  · rw [ha, if_pos h]
    exact h
theorem markB_nought (k : Int) : (markB k (List.replicate 256 0)).2 ≠ 0 := markB_none (by rw [open_noughts]; decide)
/-- A block that is hurt by a burst has none. -/
theorem mark_burst {m : MarkV} {k : Int} (h : m.right) (hk : sortK k) (f mask n : Nat) (hn : n ≤ 32) (hf : f + n ≤ 2048) : flipK (sealB (m.unit k)) f mask n = sealB (m.unit k) ∨ (markB k (flipK (sealB (m.unit k)) f mask n)).2 ≠ 0 := by
  by_cases ho : (openB (flipK (sealB (m.unit k)) f mask n)).2 = 0
  · exact .inl (open_burst (mark_right h hk) (mark_bd m k) f mask n hn hf ho)
  · exact .inr (markB_none ho)
theorem slim_mark_len (m : MarkV) (k : Int) : (m.unit k).body.length ≤ 20 := by rw [mark_len]; decide
end Go.Proofs.YtpdfmpegcejmkaaGreatDoor
