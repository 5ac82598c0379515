/- Plain mathematics of CRC-32C over words of 32 bits: the shift, its powers, products of residues, rows of bytes; no program is named here. -/
/- Plain mathematics of the table: four bits of a word at once, and eight bits at once, by what 32 shifts make of them. -/
/- Plain mathematics of bits turned in a row of bytes: what a turned bit makes of the sum; bits turned within 32 turn it. -/
import Derived.WalkKit
import Derived.Laws.BitsAllLaws
namespace Go.Proofs.YtbkecaenjjlmoaaGreatDoor.Mx

/-- One shift to the right, with exclusive or of the divisor where a one went out. -/
def sh (x : BitVec 32) : BitVec 32 := if x.getLsbD 0 then (x >>> 1) ^^^ 0x82F63B78#32 else x >>> 1
def shN : Nat → BitVec 32 → BitVec 32
  | 0, x => x
  | n + 1, x => shN n (sh x)
/-- The row of bytes taken in, one by one. -/
def crc (c : BitVec 32) (zs : List Int) : BitVec 32 := zs.foldl (fun c z => shN 8 (c ^^^ BitVec.ofInt 32 z)) c
/-- The product, bit by bit from the highest down. -/
def mulAux : Nat → BitVec 32 → BitVec 32 → BitVec 32
  | 0, _, _ => 0#32
  | n + 1, p, q => (if p.msb then q else 0#32) ^^^ mulAux n (p <<< 1) (sh q)
def mul (p q : BitVec 32) : BitVec 32 := mulAux 32 p q

theorem xor4 (a b c d : BitVec 32) : (a ^^^ b) ^^^ (c ^^^ d) = (a ^^^ c) ^^^ (b ^^^ d) := by
  rw [BitVec.xor_assoc, BitVec.xor_assoc, ← BitVec.xor_assoc b c d, BitVec.xor_comm b c, BitVec.xor_assoc c b d]

theorem sh_xor (x y : BitVec 32) : sh (x ^^^ y) = sh x ^^^ sh y := by
  unfold sh
  rw [BitVec.getLsbD_xor, BitVec.ushiftRight_xor_distrib]
  cases hx : x.getLsbD 0 <;> cases hy : y.getLsbD 0 <;> simp
  · rw [← BitVec.xor_assoc]
  · rw [BitVec.xor_assoc, BitVec.xor_comm (y >>> 1), ← BitVec.xor_assoc]
  · have := xor4 (x >>> 1) 0x82F63B78#32 (y >>> 1) 0x82F63B78#32
    rw [this]; simp
theorem sh_zero : sh 0#32 = 0#32 := by decide
theorem shN_xor (n : Nat) : ∀ x y : BitVec 32, shN n (x ^^^ y) = shN n x ^^^ shN n y := by
  induction n with
  | zero => intro x y; rfl
  | succ n ih => intro x y; show shN n (sh (x ^^^ y)) = _; rw [sh_xor, ih]; rfl
theorem shN_zero (n : Nat) : shN n 0#32 = 0#32 := by
  induction n with
  | zero => rfl
  | succ n ih => show shN n (sh 0#32) = _; rw [sh_zero, ih]
theorem shN_add (m n : Nat) : ∀ x, shN (m + n) x = shN n (shN m x) := by
  induction m with
  | zero => intro x; rw [Nat.zero_add]; rfl
  | succ m ih => intro x; rw [Nat.succ_add]; show shN (m + n) (sh x) = _; rw [ih]; rfl
theorem shN_succ (n : Nat) (x : BitVec 32) : shN (n + 1) x = sh (shN n x) := by rw [shN_add]; rfl

/-- What went out stands in the highest bit: the shift loses nothing. -/
theorem sh_msb (x : BitVec 32) : (sh x).msb = x.getLsbD 0 := by
  unfold sh
  cases h : x.getLsbD 0
  · simp [BitVec.msb_ushiftRight]
  · simp [BitVec.msb_ushiftRight]; decide
theorem sh_eq_zero (x : BitVec 32) (h : sh x = 0#32) : x = 0#32 := by
  have h0 : x.getLsbD 0 = false := by rw [← sh_msb, h]; decide
  unfold sh at h
  rw [h0] at h
  simp only [Bool.false_eq_true, if_false] at h
  apply BitVec.eq_of_getLsbD_eq
  intro i hi
  rw [BitVec.getLsbD_zero]
  cases i with
  | zero => exact h0
  | succ i =>
    have := congrArg (fun v : BitVec 32 => v.getLsbD i) h
    simpa [BitVec.getLsbD_ushiftRight, Nat.add_comm] using this
theorem shN_eq_zero (n : Nat) : ∀ x, shN n x = 0#32 → x = 0#32 := by
  induction n with
  | zero => intro x h; exact h
  | succ n ih => intro x h; exact sh_eq_zero x (ih _ h)
theorem shN_inj (n : Nat) (x y : BitVec 32) (h : shN n x = shN n y) : x = y := by
  have h2 : shN n (x ^^^ y) = 0#32 := by rw [shN_xor, h, BitVec.xor_self]
  have h3 := shN_eq_zero n _ h2
  have h4 : (x ^^^ y) ^^^ y = 0#32 ^^^ y := by rw [h3]
  rw [BitVec.xor_assoc, BitVec.xor_self] at h4
  simpa using h4

/-! ### Two linear maps that agree at the 32 single bits are one -/
def low (n : Nat) (q : BitVec 32) : BitVec 32 := BitVec.ofNat 32 (q.toNat % 2 ^ n)
theorem low_bit (n i : Nat) (q : BitVec 32) (hi : i < 32) : (low n q).getLsbD i = (decide (i < n) && q.getLsbD i) := by
  unfold low
  rw [BitVec.getLsbD_ofNat, Nat.testBit_mod_two_pow]
  simp [hi, BitVec.testBit_toNat]
theorem low_zero (q : BitVec 32) : low 0 q = 0#32 := by unfold low; simp [Nat.mod_one]
theorem low_all (q : BitVec 32) : low 32 q = q := by
  apply BitVec.eq_of_getLsbD_eq
  intro i hi
  rw [low_bit _ _ _ hi]; simp [hi]
theorem one_bit (n i : Nat) (hi : i < 32) : (1#32 <<< n).getLsbD i = decide (i = n) := by
  rw [BitVec.getLsbD_shiftLeft, BitVec.getLsbD_one]
  by_cases h : i = n
  · subst h; simp [hi]
  · by_cases h2 : i < n <;> simp [h, h2, hi]
    omega
theorem low_succ (n : Nat) (q : BitVec 32) : low (n + 1) q = low n q ^^^ (if q.getLsbD n then 1#32 <<< n else 0#32) := by
  apply BitVec.eq_of_getLsbD_eq
  intro i hi
  rw [BitVec.getLsbD_xor, low_bit _ _ _ hi, low_bit _ _ _ hi]
  by_cases hq : q.getLsbD n
  · rw [if_pos hq, one_bit _ _ hi]
    by_cases h : i = n
    · subst h; simp [hq]
    · by_cases h2 : i < n
      · simp [h, h2, Nat.lt_succ_of_lt h2]
      · have : ¬ i < n + 1 := by omega
        simp [h, h2, this]
  · rw [if_neg hq]
    by_cases h : i = n
    · subst h; simp [hq]
    · by_cases h2 : i < n
      · simp [h2, Nat.lt_succ_of_lt h2]
      · have : ¬ i < n + 1 := by omega
        simp [h2, this]
theorem lin_ext (f g : BitVec 32 → BitVec 32) (hf : ∀ x y, f (x ^^^ y) = f x ^^^ f y) (hg : ∀ x y, g (x ^^^ y) = g x ^^^ g y)
    (h : ∀ i, i < 32 → f (1#32 <<< i) = g (1#32 <<< i)) (q : BitVec 32) : f q = g q := by
  have f0 : f 0#32 = 0#32 := by
    have := hf 0#32 0#32
    rw [BitVec.xor_self] at this
    rw [this, BitVec.xor_self]
  have g0 : g 0#32 = 0#32 := by
    have := hg 0#32 0#32
    rw [BitVec.xor_self] at this
    rw [this, BitVec.xor_self]
  have hn : ∀ n, n ≤ 32 → f (low n q) = g (low n q) := by
    intro n
    induction n with
    | zero => intro _; rw [low_zero, f0, g0]
    | succ n ih =>
      intro hle
      rw [low_succ, hf, hg, ih (by omega)]
      by_cases hq : q.getLsbD n
      · rw [if_pos hq, h n (by omega)]
      · rw [if_neg hq, f0, g0]
  rw [← low_all q]
  exact hn 32 (Nat.le_refl _)

/-! ### Products -/
theorem mulAux_xor_right (n : Nat) : ∀ p x y, mulAux n p (x ^^^ y) = mulAux n p x ^^^ mulAux n p y := by
  induction n with
  | zero => intro p x y; simp [mulAux]
  | succ n ih =>
    intro p x y
    simp only [mulAux]
    rw [sh_xor, ih]
    cases p.msb
    · simp
    · simp only [if_true]; exact xor4 _ _ _ _
theorem mulAux_xor_left (n : Nat) : ∀ p r q, mulAux n (p ^^^ r) q = mulAux n p q ^^^ mulAux n r q := by
  induction n with
  | zero => intro p r q; simp [mulAux]
  | succ n ih =>
    intro p r q
    simp only [mulAux]
    rw [BitVec.shiftLeft_xor_distrib, ih, BitVec.msb_xor]
    cases p.msb <;> cases r.msb <;> simp
    · rw [← BitVec.xor_assoc, ← BitVec.xor_assoc, BitVec.xor_comm q]
    · rw [BitVec.xor_assoc]
    · have := xor4 q (mulAux n (p <<< 1) (sh q)) q (mulAux n (r <<< 1) (sh q))
      rw [this]; simp
theorem mulAux_zero (n : Nat) : ∀ q, mulAux n 0#32 q = 0#32 := by
  induction n with
  | zero => intro q; rfl
  | succ n ih => intro q; simp [mulAux, ih]
theorem mulAux_sh (n : Nat) : ∀ p q, mulAux n p (sh q) = sh (mulAux n p q) := by
  induction n with
  | zero => intro p q; simp [mulAux, sh_zero]
  | succ n ih =>
    intro p q
    simp only [mulAux]
    rw [sh_xor, ih]
    cases p.msb <;> simp [sh_zero]
theorem mul_xor_left (p r q : BitVec 32) : mul (p ^^^ r) q = mul p q ^^^ mul r q := mulAux_xor_left 32 p r q
theorem mul_xor_right (p x y : BitVec 32) : mul p (x ^^^ y) = mul p x ^^^ mul p y := mulAux_xor_right 32 p x y
theorem mul_comm_basis : (List.range 32).all (fun i => (List.range 32).all fun j => mul (1#32 <<< i) (1#32 <<< j) == mul (1#32 <<< j) (1#32 <<< i)) = true := by decide +kernel
theorem mul_comm (p q : BitVec 32) : mul p q = mul q p := by
  refine lin_ext (fun p => mul p q) (fun p => mul q p) (fun x y => mul_xor_left x y q) (fun x y => mul_xor_right q x y) (fun i hi => ?_) p
  refine lin_ext (fun q => mul (1#32 <<< i) q) (fun q => mul q (1#32 <<< i)) (fun x y => mul_xor_right _ x y) (fun x y => mul_xor_left x y _) (fun j hj => ?_) q
  have h := mul_comm_basis
  rw [List.all_eq_true] at h
  have h2 := h i (List.mem_range.2 hi)
  rw [List.all_eq_true] at h2
  exact eq_of_beq (h2 j (List.mem_range.2 hj))
def one : BitVec 32 := 0x80000000#32
theorem one_mul (q : BitVec 32) : mul one q = q := by
  show (if one.msb then q else 0#32) ^^^ mulAux 31 (one <<< 1) (sh q) = q
  rw [show one <<< 1 = 0#32 by decide, mulAux_zero, show one.msb = true by decide]
  simp
theorem sh_mul (p q : BitVec 32) : mul (sh p) q = sh (mul p q) := by
  rw [mul_comm, mul_comm p q]; exact mulAux_sh 32 q p
theorem pow_mul (n : Nat) (q : BitVec 32) : mul (shN n one) q = shN n q := by
  induction n with
  | zero => exact one_mul q
  | succ n ih => rw [shN_succ, shN_succ, sh_mul, ih]
theorem mul_pow (n : Nat) (q : BitVec 32) : mul q (shN n one) = shN n q := by rw [mul_comm, pow_mul]
theorem pow_pow (n : Nat) : mul (shN n one) (shN n one) = shN (n + n) one := by rw [pow_mul, ← shN_add]
theorem octet_pow : (8388608#32 : BitVec 32) = shN 8 one := by decide

/-! ### Rows -/
theorem crc_nil (c : BitVec 32) : crc c [] = c := rfl
theorem crc_cons (c : BitVec 32) (z : Int) (zs : List Int) : crc c (z :: zs) = crc (shN 8 (c ^^^ BitVec.ofInt 32 z)) zs := rfl
theorem crc_append (c : BitVec 32) (xs ys : List Int) : crc c (xs ++ ys) = crc (crc c xs) ys := by unfold crc; rw [List.foldl_append]
theorem crc_snoc (c : BitVec 32) (xs : List Int) (z : Int) : crc c (xs ++ [z]) = shN 8 (crc c xs ^^^ BitVec.ofInt 32 z) := by rw [crc_append]; rfl
/-- What stood ahead goes through as many shifts as there are bits. -/
theorem crc_ahead (zs : List Int) : ∀ c d, crc (c ^^^ d) zs = shN (8 * zs.length) c ^^^ crc d zs := by
  induction zs with
  | nil => intro c d; rfl
  | cons z zs ih =>
    intro c d
    rw [crc_cons, crc_cons, BitVec.xor_assoc, shN_xor, ih, ← shN_add, List.length_cons, show 8 * (zs.length + 1) = 8 + 8 * zs.length by omega]
theorem not_eq_xor (x : BitVec 32) : ~~~ x = x ^^^ 0xFFFFFFFF#32 := by
  rw [← BitVec.xor_allOnes]; rfl
theorem not_xor (x y : BitVec 32) : ~~~ (x ^^^ y) = x ^^^ ~~~ y := by rw [not_eq_xor, not_eq_xor, BitVec.xor_assoc]
/-- The sum of a row. -/
def sum (zs : List Int) : BitVec 32 := ~~~ (crc 0xFFFFFFFF#32 zs)
theorem sum_nil : sum [] = 0#32 := by decide
/-- Sums joined. -/
theorem sum_append (xs ys : List Int) : shN (8 * ys.length) (sum xs) ^^^ sum ys = sum (xs ++ ys) := by
  unfold sum
  rw [crc_append]
  have h1 := crc_ahead ys (~~~ (crc 0xFFFFFFFF#32 xs)) 0xFFFFFFFF#32
  have h2 : (~~~ (crc 0xFFFFFFFF#32 xs)) ^^^ 0xFFFFFFFF#32 = crc 0xFFFFFFFF#32 xs := by
    rw [not_eq_xor, BitVec.xor_assoc, BitVec.xor_self]; simp
  rw [h2] at h1
  rw [h1, not_xor]
end Go.Proofs.YtbkecaenjjlmoaaGreatDoor.Mx
namespace Go.Proofs.YtbkecaenjjlmoaaGreatDoor.Mx

/-- What 32 shifts make of four bits of row r. -/
def tab (r n : Nat) : BitVec 32 := shN 32 (BitVec.ofNat 32 n <<< (4 * r))
def nib (r : Nat) (x : BitVec 32) : BitVec 32 := (x >>> (4 * r)) &&& 15#32
theorem and_xor (x y m : BitVec 32) : (x ^^^ y) &&& m = (x &&& m) ^^^ (y &&& m) := by
  apply BitVec.eq_of_getLsbD_eq
  intro i _
  rw [BitVec.getLsbD_and, BitVec.getLsbD_xor, BitVec.getLsbD_xor, BitVec.getLsbD_and, BitVec.getLsbD_and]
  cases x.getLsbD i <;> cases y.getLsbD i <;> cases m.getLsbD i <;> rfl
theorem nib_xor (r : Nat) (x y : BitVec 32) : nib r (x ^^^ y) = nib r x ^^^ nib r y := by
  unfold nib; rw [BitVec.ushiftRight_xor_distrib, and_xor]
theorem nib_nat (r : Nat) (x : BitVec 32) : BitVec.ofNat 32 (x.toNat / 2 ^ (4 * r) % 16) = nib r x := by
  apply BitVec.eq_of_toNat_eq
  unfold nib
  rw [BitVec.toNat_ofNat, BitVec.toNat_and, BitVec.toNat_ushiftRight, Nat.shiftRight_eq_div_pow, show (15#32 : BitVec 32).toNat = 15 by decide, nat_mask4, Nat.mod_eq_of_lt]
  omega
theorem tab_nib (r : Nat) (x : BitVec 32) : tab r (x.toNat / 2 ^ (4 * r) % 16) = shN 32 (nib r x <<< (4 * r)) := by unfold tab; rw [nib_nat]
def nibs (x : BitVec 32) : BitVec 32 := nib 0 x <<< 0 ^^^ nib 1 x <<< 4 ^^^ nib 2 x <<< 8 ^^^ nib 3 x <<< 12 ^^^ nib 4 x <<< 16 ^^^ nib 5 x <<< 20 ^^^ nib 6 x <<< 24 ^^^ nib 7 x <<< 28
theorem xor_lc (a b c : BitVec 32) : a ^^^ (b ^^^ c) = b ^^^ (a ^^^ c) := by rw [← BitVec.xor_assoc, BitVec.xor_comm a, BitVec.xor_assoc]
theorem nibs_xor (x y : BitVec 32) : nibs (x ^^^ y) = nibs x ^^^ nibs y := by
  unfold nibs
  simp only [nib_xor, BitVec.shiftLeft_xor_distrib]
  simp only [BitVec.xor_assoc, xor_lc]
theorem basis_of (f g : BitVec 32 → BitVec 32) (h : (List.range 32).all (fun i => f (1#32 <<< i) == g (1#32 <<< i)) = true) : ∀ i, i < 32 → f (1#32 <<< i) = g (1#32 <<< i) := by
  intro i hi
  rw [List.all_eq_true] at h
  exact eq_of_beq (h i (List.mem_range.2 hi))
theorem nibs_basis : (List.range 32).all (fun i => nibs (1#32 <<< i) == 1#32 <<< i) = true := by decide +kernel
theorem nibs_all (x : BitVec 32) : nibs x = x :=
  lin_ext nibs (fun x => x) nibs_xor (fun _ _ => rfl) (basis_of nibs (fun x => x) nibs_basis) x
/-- Eight tables, one word. -/
theorem word_tab (x : BitVec 32) :
    tab 0 (x.toNat % 16) ^^^ tab 1 (x.toNat / 16 % 16) ^^^ tab 2 (x.toNat / 256 % 16) ^^^ tab 3 (x.toNat / 4096 % 16) ^^^ tab 4 (x.toNat / 65536 % 16) ^^^ tab 5 (x.toNat / 1048576 % 16) ^^^ tab 6 (x.toNat / 16777216 % 16) ^^^ tab 7 (x.toNat / 268435456 % 16) = shN 32 x := by
  have h0 := tab_nib 0 x
  have h1 := tab_nib 1 x
  have h2 := tab_nib 2 x
  have h3 := tab_nib 3 x
  have h4 := tab_nib 4 x
  have h5 := tab_nib 5 x
  have h6 := tab_nib 6 x
  have h7 := tab_nib 7 x
  simp only [Nat.reduceMul, Nat.reducePow, Nat.div_one] at h0 h1 h2 h3 h4 h5 h6 h7
  rw [h0, h1, h2, h3, h4, h5, h6, h7, ← shN_xor, ← shN_xor, ← shN_xor, ← shN_xor, ← shN_xor, ← shN_xor, ← shN_xor]
  exact congrArg (shN 32) (nibs_all x)

/-! ### Bytes -/
def byte (y : BitVec 32) : BitVec 32 := y &&& 255#32
theorem byte_xor (x y : BitVec 32) : byte (x ^^^ y) = byte x ^^^ byte y := and_xor x y _
theorem back8_basis : (List.range 32).all (fun i => shN 8 (byte (1#32 <<< i) <<< 8) == byte (1#32 <<< i)) = true := by decide +kernel
theorem back8_lin (a b : BitVec 32) : shN 8 (byte (a ^^^ b) <<< 8) = shN 8 (byte a <<< 8) ^^^ shN 8 (byte b <<< 8) := by rw [byte_xor, BitVec.shiftLeft_xor_distrib, shN_xor]
theorem back8 (y : BitVec 32) : shN 8 (byte y <<< 8) = byte y :=
  lin_ext (fun y => shN 8 (byte y <<< 8)) byte back8_lin byte_xor (basis_of (fun y => shN 8 (byte y <<< 8)) byte back8_basis) y
theorem back16_basis : (List.range 32).all (fun i => shN 16 (byte (1#32 <<< i) <<< 16) == byte (1#32 <<< i)) = true := by decide +kernel
theorem back16_lin (a b : BitVec 32) : shN 16 (byte (a ^^^ b) <<< 16) = shN 16 (byte a <<< 16) ^^^ shN 16 (byte b <<< 16) := by rw [byte_xor, BitVec.shiftLeft_xor_distrib, shN_xor]
theorem back16 (y : BitVec 32) : shN 16 (byte y <<< 16) = byte y :=
  lin_ext (fun y => shN 16 (byte y <<< 16)) byte back16_lin byte_xor (basis_of (fun y => shN 16 (byte y <<< 16)) byte back16_basis) y
theorem back24_basis : (List.range 32).all (fun i => shN 24 (byte (1#32 <<< i) <<< 24) == byte (1#32 <<< i)) = true := by decide +kernel
theorem back24_lin (a b : BitVec 32) : shN 24 (byte (a ^^^ b) <<< 24) = shN 24 (byte a <<< 24) ^^^ shN 24 (byte b <<< 24) := by rw [byte_xor, BitVec.shiftLeft_xor_distrib, shN_xor]
theorem back24 (y : BitVec 32) : shN 24 (byte y <<< 24) = byte y :=
  lin_ext (fun y => shN 24 (byte y <<< 24)) byte back24_lin byte_xor (basis_of (fun y => shN 24 (byte y <<< 24)) byte back24_basis) y
theorem byte_of (z : Int) (h0 : 0 ≤ z) (h1 : z < 256) : byte (BitVec.ofInt 32 z) = BitVec.ofInt 32 z := by
  obtain ⟨n, rfl⟩ := Int.eq_ofNat_of_zero_le h0
  rw [BitVec.ofInt_natCast]
  apply BitVec.eq_of_toNat_eq
  unfold byte
  rw [BitVec.toNat_and, BitVec.toNat_ofNat, show (255#32 : BitVec 32).toNat = 255 by decide, nat_mask8]
  omega
def pieces (x : BitVec 32) : BitVec 32 := (x >>> 8) ^^^ shN 32 ((nib 0 (byte x)) <<< 24) ^^^ shN 32 ((nib 1 (byte x)) <<< 28)
theorem pieces_xor (a b : BitVec 32) : pieces (a ^^^ b) = pieces a ^^^ pieces b := by
  unfold pieces
  simp only [byte_xor, nib_xor, BitVec.shiftLeft_xor_distrib, BitVec.ushiftRight_xor_distrib, shN_xor]
  simp only [BitVec.xor_assoc, xor_lc]
theorem pieces_basis : (List.range 32).all (fun i => pieces (1#32 <<< i) == shN 8 (1#32 <<< i)) = true := by decide +kernel
/-- One byte by two tables. -/
theorem byte_tab (c : BitVec 32) (z : Int) (h0 : 0 ≤ z) (h1 : z < 256) :
    (c >>> 8) ^^^ shN 32 ((nib 0 (byte (c ^^^ BitVec.ofInt 32 z))) <<< 24) ^^^ shN 32 ((nib 1 (byte (c ^^^ BitVec.ofInt 32 z))) <<< 28) = shN 8 (c ^^^ BitVec.ofInt 32 z) := by
  have hz : BitVec.ofInt 32 z >>> 8 = 0#32 := by
    rw [← byte_of z h0 h1]
    apply BitVec.eq_of_getLsbD_eq
    intro i _
    unfold byte
    rw [BitVec.getLsbD_ushiftRight, BitVec.getLsbD_and, show (255#32 : BitVec 32) = BitVec.ofNat 32 (2 ^ 8 - 1) by rfl, BitVec.getLsbD_ofNat, Nat.testBit_two_pow_sub_one]
    simp
  have hc : c >>> 8 = (c ^^^ BitVec.ofInt 32 z) >>> 8 := by rw [BitVec.ushiftRight_xor_distrib, hz]; simp
  rw [hc]
  exact lin_ext pieces (shN 8) pieces_xor (shN_xor 8) (basis_of pieces (shN 8) pieces_basis) _
/-- Four bytes, as a word. -/
def word (z0 z1 z2 z3 : Int) : BitVec 32 := BitVec.ofInt 32 z0 ^^^ BitVec.ofInt 32 z1 <<< 8 ^^^ BitVec.ofInt 32 z2 <<< 16 ^^^ BitVec.ofInt 32 z3 <<< 24
theorem crc_word (c : BitVec 32) (z0 z1 z2 z3 : Int) (g1 : 0 ≤ z1 ∧ z1 < 256) (g2 : 0 ≤ z2 ∧ z2 < 256) (g3 : 0 ≤ z3 ∧ z3 < 256) :
    crc c [z0, z1, z2, z3] = shN 32 (c ^^^ word z0 z1 z2 z3) := by
  have b1 := back8 (BitVec.ofInt 32 z1)
  have b2 := back16 (BitVec.ofInt 32 z2)
  have b3 := back24 (BitVec.ofInt 32 z3)
  rw [byte_of _ g1.1 g1.2] at b1
  rw [byte_of _ g2.1 g2.2] at b2
  rw [byte_of _ g3.1 g3.2] at b3
  show shN 8 (shN 8 (shN 8 (shN 8 (c ^^^ BitVec.ofInt 32 z0) ^^^ BitVec.ofInt 32 z1) ^^^ BitVec.ofInt 32 z2) ^^^ BitVec.ofInt 32 z3) = _
  rw [← b1, ← shN_xor, ← shN_add, ← b2, ← shN_xor, ← shN_add, ← b3, ← shN_xor, ← shN_add]
  unfold word
  simp only [BitVec.xor_assoc, Nat.reduceAdd]
theorem or_of_apart (x y : BitVec 32) (h : x &&& y = 0#32) : x ||| y = x ^^^ y := by
  apply BitVec.eq_of_getLsbD_eq
  intro i hi
  have := congrArg (fun v : BitVec 32 => v.getLsbD i) h
  simp only [BitVec.getLsbD_and, BitVec.getLsbD_zero] at this
  rw [BitVec.getLsbD_or, BitVec.getLsbD_xor]
  revert this
  cases x.getLsbD i <;> cases y.getLsbD i <;> simp
theorem small_bit (n k i : Nat) (h : n < 2 ^ k) (hi : k ≤ i) : n.testBit i = false :=
  Nat.testBit_lt_two_pow (Nat.lt_of_lt_of_le h (Nat.pow_le_pow_right (by omega) hi))
theorem apart (n m k : Nat) (h : n < 2 ^ k) : BitVec.ofNat 32 n &&& (BitVec.ofNat 32 m <<< k) = 0#32 := by
  apply BitVec.eq_of_getLsbD_eq
  intro i hi
  rw [BitVec.getLsbD_and, BitVec.getLsbD_ofNat, BitVec.getLsbD_shiftLeft, BitVec.getLsbD_zero]
  by_cases hk : k ≤ i
  · rw [small_bit n k i h hk]; simp
  · simp; omega
theorem mul_shift (n k : Nat) : BitVec.ofNat 32 (n * 2 ^ k) = BitVec.ofNat 32 n <<< k := by
  apply BitVec.eq_of_toNat_eq
  rw [BitVec.toNat_shiftLeft, BitVec.toNat_ofNat, BitVec.toNat_ofNat, Nat.shiftLeft_eq, Nat.mod_mul_mod]
theorem or_step (n m k : Nat) (h : n < 2 ^ k) : BitVec.ofNat 32 n ||| BitVec.ofNat 32 (m * 2 ^ k) = BitVec.ofNat 32 (n + m * 2 ^ k) := by
  apply BitVec.eq_of_getLsbD_eq
  intro i hi
  rw [BitVec.getLsbD_or, BitVec.getLsbD_ofNat, BitVec.getLsbD_ofNat, BitVec.getLsbD_ofNat]
  simp only [hi, decide_true, Bool.true_and]
  rw [← Nat.testBit_or, Nat.add_comm, Nat.mul_comm m, Nat.two_pow_add_eq_or_of_lt h, Nat.or_comm]
theorem or_xor (n m k : Nat) (h : n < 2 ^ k) : BitVec.ofNat 32 n ||| BitVec.ofNat 32 (m * 2 ^ k) = BitVec.ofNat 32 n ^^^ (BitVec.ofNat 32 m <<< k) := by
  rw [mul_shift, or_of_apart _ _ (apart n m k h)]
/-- Four bytes, as the program puts them together. -/
theorem word_or (n0 n1 n2 n3 : Nat) (h0 : n0 < 256) (h1 : n1 < 256) (h2 : n2 < 256) :
    ((BitVec.ofNat 32 n0 ||| BitVec.ofNat 32 (n1 * 2 ^ 8)) ||| BitVec.ofNat 32 (n2 * 2 ^ 16)) ||| BitVec.ofNat 32 (n3 * 2 ^ 24) =
      BitVec.ofNat 32 n0 ^^^ (BitVec.ofNat 32 n1 <<< 8) ^^^ (BitVec.ofNat 32 n2 <<< 16) ^^^ (BitVec.ofNat 32 n3 <<< 24) := by
  have a1 := or_step n0 n1 8 h0
  have a2 := or_step (n0 + n1 * 2 ^ 8) n2 16 (by omega)
  have x1 := or_xor n0 n1 8 h0
  have x2 := or_xor (n0 + n1 * 2 ^ 8) n2 16 (by omega)
  have x3 := or_xor (n0 + n1 * 2 ^ 8 + n2 * 2 ^ 16) n3 24 (by omega)
  rw [a1, a2, x3, ← a2, x2, ← a1, x1]
end Go.Proofs.YtbkecaenjjlmoaaGreatDoor.Mx
namespace Go.Proofs.YtbkecaenjjlmoaaGreatDoor.Mx
theorem crc_set (zs : List Int) (q : Nat) (z' : Int) (c d : BitVec 32) (hq : q < zs.length) (h : BitVec.ofInt 32 z' = BitVec.ofInt 32 (zs.getD q 0) ^^^ d) :
    crc c (zs.set q z') = crc c zs ^^^ shN (8 * (zs.length - q)) d := by
  have hs : zs = zs.take q ++ zs.getD q 0 :: zs.drop (q + 1) := by
    rw [List.getD_eq_getElem?_getD, List.getElem?_eq_getElem hq, Option.getD_some, ← List.drop_eq_getElem_cons hq, List.take_append_drop]
  have hset : zs.set q z' = zs.take q ++ z' :: zs.drop (q + 1) := by rw [List.set_eq_take_append_cons_drop, if_pos hq]
  rw [hset]
  conv => rhs; rw [hs]
  rw [crc_append, crc_append, crc_cons, crc_cons, h, ← BitVec.xor_assoc, shN_xor, BitVec.xor_comm, crc_ahead, ← shN_add, BitVec.xor_comm]
  congr 2
  simp
  omega
theorem unit_back : (List.range 32).all (fun j => shN j (1#32 <<< j) == 1#32) = true := by decide +kernel
theorem unit_at (j : Nat) (hj : j < 32) : shN j (1#32 <<< j) = 1#32 := by
  have h := unit_back
  rw [List.all_eq_true] at h
  exact eq_of_beq (h j (List.mem_range.2 hj))
theorem unit_shift (m j : Nat) (hj : j < 32) (h : j ≤ m) : shN m (1#32 <<< j) = shN (m - j) 1#32 := by
  have := shN_add j (m - j) (1#32 <<< j)
  rw [show j + (m - j) = m by omega, unit_at j hj] at this
  exact this
/-- Bit k of the run turned at place f + k. -/
theorem turn_step (zs pz : List Int) (f k n : Nat) (z' : Int) (c t : BitVec 32) (hn : zs.length = n) (hk : k < 32) (hf : f + k < 8 * n)
    (h : BitVec.ofInt 32 z' = BitVec.ofInt 32 (zs.getD ((f + k) / 8) 0) ^^^ (if t.getLsbD k then 1#32 <<< ((f + k) % 8) else 0#32))
    (hc : crc c zs = crc c pz ^^^ shN (8 * n - f) (low k t)) :
    crc c (zs.set ((f + k) / 8) z') = crc c pz ^^^ shN (8 * n - f) (low (k + 1) t) := by
  rw [crc_set zs _ z' c _ (by omega) h, hc, low_succ, shN_xor, BitVec.xor_assoc]
  congr 2
  by_cases hb : t.getLsbD k
  · rw [if_pos hb, if_pos hb, unit_shift _ _ (by omega) (by omega), unit_shift _ _ hk (by omega)]
    congr 1
    omega
  · rw [if_neg hb, if_neg hb, shN_zero, shN_zero]
theorem low_none (k : Nat) (t : BitVec 32) (h : low (k + 1) t = 0#32) (hk : k < 32) : t.getLsbD k = false ∧ low k t = 0#32 := by
  have h0 : t.getLsbD k = false := by
    have := congrArg (fun v : BitVec 32 => v.getLsbD k) h
    simp only [low_bit _ _ _ hk, BitVec.getLsbD_zero] at this
    simpa using this
  refine ⟨h0, ?_⟩
  rw [low_succ, h0] at h
  simpa using h
theorem crc_turned (zs pz : List Int) (m k : Nat) (t : BitVec 32) (c : BitVec 32) (hc : crc c zs = crc c pz ^^^ shN m (low k t)) (h : crc c zs = crc c pz) : low k t = 0#32 := by
  rw [h] at hc
  have : shN m (low k t) = 0#32 := by
    have h2 : crc c pz ^^^ crc c pz = crc c pz ^^^ (crc c pz ^^^ shN m (low k t)) := by rw [← hc]
    rw [BitVec.xor_self, ← BitVec.xor_assoc, BitVec.xor_self] at h2
    simpa using h2.symm
  exact shN_eq_zero _ _ this
theorem not_inj (x y : BitVec 32) (h : ~~~ x = ~~~ y) : x = y := by
  rw [not_eq_xor, not_eq_xor] at h
  have : (x ^^^ 0xFFFFFFFF#32) ^^^ 0xFFFFFFFF#32 = (y ^^^ 0xFFFFFFFF#32) ^^^ 0xFFFFFFFF#32 := by rw [h]
  rw [BitVec.xor_assoc, BitVec.xor_assoc, BitVec.xor_self] at this
  simpa using this
theorem sum_turned (zs pz : List Int) (m k : Nat) (t : BitVec 32) (hc : crc 0xFFFFFFFF#32 zs = crc 0xFFFFFFFF#32 pz ^^^ shN m (low k t)) (hz : low k t = 0#32 → zs = pz) : sum zs = sum pz ↔ zs = pz :=
  ⟨fun h => hz (crc_turned zs pz m k t _ hc (not_inj _ _ h)), fun h => by rw [h]⟩
end Go.Proofs.YtbkecaenjjlmoaaGreatDoor.Mx
