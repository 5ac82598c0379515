/- Plain mathematics of the table: four bits of a word at once, and eight bits at once, by what 32 shifts make of them. -/
import Derived.Test.YtdmomeeilibnmaaDoorMixMath
import Derived.Test.YtdmomeeilibnmaaDoorMixWalksA
namespace Go.Proofs.YtdmomeeilibnmaaDoor.Mx

/-- What 32 shifts make of four bits of row r. -/
def tab (r n : Nat) : BitVec 32 := shN 32 (BitVec.ofNat 32 n <<< (4 * r))
def nib (r : Nat) (x : BitVec 32) : BitVec 32 := (x >>> (4 * r)) &&& 15#32
theorem and_xor (x y m : BitVec 32) : (x ^^^ y) &&& m = (x &&& m) ^^^ (y &&& m) := by
  apply BitVec.eq_of_getLsbD_eq
  intro i _
  rw [BitVec.getLsbD_and, BitVec.getLsbD_xor, BitVec.getLsbD_xor, BitVec.getLsbD_and, BitVec.getLsbD_and]
  cases x.getLsbD i <;> cases y.getLsbD i <;> cases m.getLsbD i <;> rfl
theorem nib_xor (r : Nat) (x y : BitVec 32) : nib r (x ^^^ y) = nib r x ^^^ nib r y := by
  unfold nib; rw [BitVec.ushiftRight_xor_distrib, and_xor]
theorem nib_nat (r : Nat) (x : BitVec 32) : BitVec.ofNat 32 (x.toNat / 2 ^ (4 * r) % 16) = nib r x := by
  apply BitVec.eq_of_toNat_eq
  unfold nib
  rw [BitVec.toNat_ofNat, BitVec.toNat_and, BitVec.toNat_ushiftRight, Nat.shiftRight_eq_div_pow, show (15#32 : BitVec 32).toNat = 15 by decide, nat_mask4, Nat.mod_eq_of_lt]
  omega
theorem tab_nib (r : Nat) (x : BitVec 32) : tab r (x.toNat / 2 ^ (4 * r) % 16) = shN 32 (nib r x <<< (4 * r)) := by unfold tab; rw [nib_nat]
def nibs (x : BitVec 32) : BitVec 32 := nib 0 x <<< 0 ^^^ nib 1 x <<< 4 ^^^ nib 2 x <<< 8 ^^^ nib 3 x <<< 12 ^^^ nib 4 x <<< 16 ^^^ nib 5 x <<< 20 ^^^ nib 6 x <<< 24 ^^^ nib 7 x <<< 28
theorem xor_lc (a b c : BitVec 32) : a ^^^ (b ^^^ c) = b ^^^ (a ^^^ c) := by rw [← BitVec.xor_assoc, BitVec.xor_comm a, BitVec.xor_assoc]
theorem nibs_xor (x y : BitVec 32) : nibs (x ^^^ y) = nibs x ^^^ nibs y := by
  unfold nibs
  simp only [nib_xor, BitVec.shiftLeft_xor_distrib]
  simp only [BitVec.xor_assoc, xor_lc]
theorem basis_of (f g : BitVec 32 → BitVec 32) (h : (List.range 32).all (fun i => f (1#32 <<< i) == g (1#32 <<< i)) = true) : ∀ i, i < 32 → f (1#32 <<< i) = g (1#32 <<< i) := by
  intro i hi
  rw [List.all_eq_true] at h
  exact eq_of_beq (h i (List.mem_range.2 hi))
theorem nibs_basis : (List.range 32).all (fun i => nibs (1#32 <<< i) == 1#32 <<< i) = true := by decide +kernel
theorem nibs_all (x : BitVec 32) : nibs x = x :=
  lin_ext nibs (fun x => x) nibs_xor (fun _ _ => rfl) (basis_of nibs (fun x => x) nibs_basis) x
/-- Eight tables, one word. -/
theorem word_tab (x : BitVec 32) :
    tab 0 (x.toNat % 16) ^^^ tab 1 (x.toNat / 16 % 16) ^^^ tab 2 (x.toNat / 256 % 16) ^^^ tab 3 (x.toNat / 4096 % 16) ^^^ tab 4 (x.toNat / 65536 % 16) ^^^ tab 5 (x.toNat / 1048576 % 16) ^^^ tab 6 (x.toNat / 16777216 % 16) ^^^ tab 7 (x.toNat / 268435456 % 16) = shN 32 x := by
  have h0 := tab_nib 0 x
  have h1 := tab_nib 1 x
  have h2 := tab_nib 2 x
  have h3 := tab_nib 3 x
  have h4 := tab_nib 4 x
  have h5 := tab_nib 5 x
  have h6 := tab_nib 6 x
  have h7 := tab_nib 7 x
  simp only [Nat.reduceMul, Nat.reducePow, Nat.div_one] at h0 h1 h2 h3 h4 h5 h6 h7
  rw [h0, h1, h2, h3, h4, h5, h6, h7, ← shN_xor, ← shN_xor, ← shN_xor, ← shN_xor, ← shN_xor, ← shN_xor, ← shN_xor]
  exact congrArg (shN 32) (nibs_all x)

/-! ### Bytes -/
def byte (y : BitVec 32) : BitVec 32 := y &&& 255#32
theorem byte_xor (x y : BitVec 32) : byte (x ^^^ y) = byte x ^^^ byte y := and_xor x y _
theorem back8_basis : (List.range 32).all (fun i => shN 8 (byte (1#32 <<< i) <<< 8) == byte (1#32 <<< i)) = true := by decide +kernel
theorem back8_lin (a b : BitVec 32) : shN 8 (byte (a ^^^ b) <<< 8) = shN 8 (byte a <<< 8) ^^^ shN 8 (byte b <<< 8) := by rw [byte_xor, BitVec.shiftLeft_xor_distrib, shN_xor]
theorem back8 (y : BitVec 32) : shN 8 (byte y <<< 8) = byte y :=
  lin_ext (fun y => shN 8 (byte y <<< 8)) byte back8_lin byte_xor (basis_of (fun y => shN 8 (byte y <<< 8)) byte back8_basis) y
theorem back16_basis : (List.range 32).all (fun i => shN 16 (byte (1#32 <<< i) <<< 16) == byte (1#32 <<< i)) = true := by decide +kernel
theorem back16_lin (a b : BitVec 32) : shN 16 (byte (a ^^^ b) <<< 16) = shN 16 (byte a <<< 16) ^^^ shN 16 (byte b <<< 16) := by rw [byte_xor, BitVec.shiftLeft_xor_distrib, shN_xor]
theorem back16 (y : BitVec 32) : shN 16 (byte y <<< 16) = byte y :=
  lin_ext (fun y => shN 16 (byte y <<< 16)) byte back16_lin byte_xor (basis_of (fun y => shN 16 (byte y <<< 16)) byte back16_basis) y
theorem back24_basis : (List.range 32).all (fun i => shN 24 (byte (1#32 <<< i) <<< 24) == byte (1#32 <<< i)) = true := by decide +kernel
theorem back24_lin (a b : BitVec 32) : shN 24 (byte (a ^^^ b) <<< 24) = shN 24 (byte a <<< 24) ^^^ shN 24 (byte b <<< 24) := by rw [byte_xor, BitVec.shiftLeft_xor_distrib, shN_xor]
theorem back24 (y : BitVec 32) : shN 24 (byte y <<< 24) = byte y :=
  lin_ext (fun y => shN 24 (byte y <<< 24)) byte back24_lin byte_xor (basis_of (fun y => shN 24 (byte y <<< 24)) byte back24_basis) y
theorem byte_of (z : Int) (h0 : 0 ≤ z) (h1 : z < 256) : byte (BitVec.ofInt 32 z) = BitVec.ofInt 32 z := by
  obtain ⟨n, rfl⟩ := Int.eq_ofNat_of_zero_le h0
  rw [BitVec.ofInt_natCast]
  apply BitVec.eq_of_toNat_eq
  unfold byte
  rw [BitVec.toNat_and, BitVec.toNat_ofNat, show (255#32 : BitVec 32).toNat = 255 by decide, nat_mask8]
  omega
def pieces (x : BitVec 32) : BitVec 32 := (x >>> 8) ^^^ shN 32 ((nib 0 (byte x)) <<< 24) ^^^ shN 32 ((nib 1 (byte x)) <<< 28)
theorem pieces_xor (a b : BitVec 32) : pieces (a ^^^ b) = pieces a ^^^ pieces b := by
  unfold pieces
  simp only [byte_xor, nib_xor, BitVec.shiftLeft_xor_distrib, BitVec.ushiftRight_xor_distrib, shN_xor]
  simp only [BitVec.xor_assoc, xor_lc]
theorem pieces_basis : (List.range 32).all (fun i => pieces (1#32 <<< i) == shN 8 (1#32 <<< i)) = true := by decide +kernel
/-- One byte by two tables. -/
theorem byte_tab (c : BitVec 32) (z : Int) (h0 : 0 ≤ z) (h1 : z < 256) :
    (c >>> 8) ^^^ shN 32 ((nib 0 (byte (c ^^^ BitVec.ofInt 32 z))) <<< 24) ^^^ shN 32 ((nib 1 (byte (c ^^^ BitVec.ofInt 32 z))) <<< 28) = shN 8 (c ^^^ BitVec.ofInt 32 z) := by
  have hz : BitVec.ofInt 32 z >>> 8 = 0#32 := by
    rw [← byte_of z h0 h1]
    apply BitVec.eq_of_getLsbD_eq
    intro i _
    unfold byte
    rw [BitVec.getLsbD_ushiftRight, BitVec.getLsbD_and, show (255#32 : BitVec 32) = BitVec.ofNat 32 (2 ^ 8 - 1) by rfl, BitVec.getLsbD_ofNat, Nat.testBit_two_pow_sub_one]
    simp
  have hc : c >>> 8 = (c ^^^ BitVec.ofInt 32 z) >>> 8 := by rw [BitVec.ushiftRight_xor_distrib, hz]; simp
  rw [hc]
  exact lin_ext pieces (shN 8) pieces_xor (shN_xor 8) (basis_of pieces (shN 8) pieces_basis) _
/-- Four bytes, as a word. -/
def word (z0 z1 z2 z3 : Int) : BitVec 32 := BitVec.ofInt 32 z0 ^^^ BitVec.ofInt 32 z1 <<< 8 ^^^ BitVec.ofInt 32 z2 <<< 16 ^^^ BitVec.ofInt 32 z3 <<< 24
theorem crc_word (c : BitVec 32) (z0 z1 z2 z3 : Int) (g1 : 0 ≤ z1 ∧ z1 < 256) (g2 : 0 ≤ z2 ∧ z2 < 256) (g3 : 0 ≤ z3 ∧ z3 < 256) :
    crc c [z0, z1, z2, z3] = shN 32 (c ^^^ word z0 z1 z2 z3) := by
  have b1 := back8 (BitVec.ofInt 32 z1)
  have b2 := back16 (BitVec.ofInt 32 z2)
  have b3 := back24 (BitVec.ofInt 32 z3)
  rw [byte_of _ g1.1 g1.2] at b1
  rw [byte_of _ g2.1 g2.2] at b2
  rw [byte_of _ g3.1 g3.2] at b3
  show shN 8 (shN 8 (shN 8 (shN 8 (c ^^^ BitVec.ofInt 32 z0) ^^^ BitVec.ofInt 32 z1) ^^^ BitVec.ofInt 32 z2) ^^^ BitVec.ofInt 32 z3) = _
  rw [← b1, ← shN_xor, ← shN_add, ← b2, ← shN_xor, ← shN_add, ← b3, ← shN_xor, ← shN_add]
  unfold word
  simp only [BitVec.xor_assoc, Nat.reduceAdd]
theorem or_of_apart (x y : BitVec 32) (h : x &&& y = 0#32) : x ||| y = x ^^^ y := by
  apply BitVec.eq_of_getLsbD_eq
  intro i hi
  have := congrArg (fun v : BitVec 32 => v.getLsbD i) h
  simp only [BitVec.getLsbD_and, BitVec.getLsbD_zero] at this
  rw [BitVec.getLsbD_or, BitVec.getLsbD_xor]
  revert this
  cases x.getLsbD i <;> cases y.getLsbD i <;> simp
theorem small_bit (n k i : Nat) (h : n < 2 ^ k) (hi : k ≤ i) : n.testBit i = false :=
  Nat.testBit_lt_two_pow (Nat.lt_of_lt_of_le h (Nat.pow_le_pow_right (by omega) hi))
theorem apart (n m k : Nat) (h : n < 2 ^ k) : BitVec.ofNat 32 n &&& (BitVec.ofNat 32 m <<< k) = 0#32 := by
  apply BitVec.eq_of_getLsbD_eq
  intro i hi
  rw [BitVec.getLsbD_and, BitVec.getLsbD_ofNat, BitVec.getLsbD_shiftLeft, BitVec.getLsbD_zero]
  by_cases hk : k ≤ i
  · rw [small_bit n k i h hk]; simp
  · simp; omega
theorem mul_shift (n k : Nat) : BitVec.ofNat 32 (n * 2 ^ k) = BitVec.ofNat 32 n <<< k := by
  apply BitVec.eq_of_toNat_eq
  rw [BitVec.toNat_shiftLeft, BitVec.toNat_ofNat, BitVec.toNat_ofNat, Nat.shiftLeft_eq, Nat.mod_mul_mod]
theorem or_step (n m k : Nat) (h : n < 2 ^ k) : BitVec.ofNat 32 n ||| BitVec.ofNat 32 (m * 2 ^ k) = BitVec.ofNat 32 (n + m * 2 ^ k) := by
  apply BitVec.eq_of_getLsbD_eq
  intro i hi
  rw [BitVec.getLsbD_or, BitVec.getLsbD_ofNat, BitVec.getLsbD_ofNat, BitVec.getLsbD_ofNat]
  simp only [hi, decide_true, Bool.true_and]
  rw [← Nat.testBit_or, Nat.add_comm, Nat.mul_comm m, Nat.two_pow_add_eq_or_of_lt h, Nat.or_comm]
theorem or_xor (n m k : Nat) (h : n < 2 ^ k) : BitVec.ofNat 32 n ||| BitVec.ofNat 32 (m * 2 ^ k) = BitVec.ofNat 32 n ^^^ (BitVec.ofNat 32 m <<< k) := by
  rw [mul_shift, or_of_apart _ _ (apart n m k h)]
/-- Four bytes, as the program puts them together. -/
theorem word_or (n0 n1 n2 n3 : Nat) (h0 : n0 < 256) (h1 : n1 < 256) (h2 : n2 < 256) :
    ((BitVec.ofNat 32 n0 ||| BitVec.ofNat 32 (n1 * 2 ^ 8)) ||| BitVec.ofNat 32 (n2 * 2 ^ 16)) ||| BitVec.ofNat 32 (n3 * 2 ^ 24) =
      BitVec.ofNat 32 n0 ^^^ (BitVec.ofNat 32 n1 <<< 8) ^^^ (BitVec.ofNat 32 n2 <<< 16) ^^^ (BitVec.ofNat 32 n3 <<< 24) := by
  have a1 := or_step n0 n1 8 h0
  have a2 := or_step (n0 + n1 * 2 ^ 8) n2 16 (by omega)
  have x1 := or_xor n0 n1 8 h0
  have x2 := or_xor (n0 + n1 * 2 ^ 8) n2 16 (by omega)
  have x3 := or_xor (n0 + n1 * 2 ^ 8 + n2 * 2 ^ 16) n3 24 (by omega)
  rw [a1, a2, x3, ← a2, x2, ← a1, x1]
end Go.Proofs.YtdmomeeilibnmaaDoor.Mx
