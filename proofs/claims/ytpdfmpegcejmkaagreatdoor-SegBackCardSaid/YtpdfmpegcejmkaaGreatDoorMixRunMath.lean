/- Plain mathematics of CRC-32C over words of 32 bits: the shift, its powers, products of residues, rows of bytes; no program is named here. -/
/- Plain mathematics of bits turned in a row of bytes: what a turned bit makes of the sum; bits turned within 32 turn it. -/
import Derived.WalkKit
import Derived.Laws.BitsAllLaws
namespace Go.Proofs.YtpdfmpegcejmkaaGreatDoor.Mx

/-- One shift to the right, with exclusive or of the divisor where a one went out. -/
def sh (x : BitVec 32) : BitVec 32 := if x.getLsbD 0 then (x >>> 1) ^^^ 0x82F63B78#32 else x >>> 1
def shN : Nat → BitVec 32 → BitVec 32
  | 0, x => x
  | n + 1, x => shN n (sh x)
/-- The row of bytes taken in, one by one. -/
def crc (c : BitVec 32) (zs : List Int) : BitVec 32 := zs.foldl (fun c z => shN 8 (c ^^^ BitVec.ofInt 32 z)) c
/-- The product, bit by bit from the highest down. -/
def mulAux : Nat → BitVec 32 → BitVec 32 → BitVec 32
  | 0, _, _ => 0#32
  | n + 1, p, q => (if p.msb then q else 0#32) ^^^ mulAux n (p <<< 1) (sh q)
def mul (p q : BitVec 32) : BitVec 32 := mulAux 32 p q

theorem xor4 (a b c d : BitVec 32) : (a ^^^ b) ^^^ (c ^^^ d) = (a ^^^ c) ^^^ (b ^^^ d) := by
  rw [BitVec.xor_assoc, BitVec.xor_assoc, ← BitVec.xor_assoc b c d, BitVec.xor_comm b c, BitVec.xor_assoc c b d]

theorem sh_xor (x y : BitVec 32) : sh (x ^^^ y) = sh x ^^^ sh y := by
  unfold sh
  rw [BitVec.getLsbD_xor, BitVec.ushiftRight_xor_distrib]
  cases hx : x.getLsbD 0 <;> cases hy : y.getLsbD 0 <;> simp
  · rw [← BitVec.xor_assoc]
  · rw [BitVec.xor_assoc, BitVec.xor_comm (y >>> 1), ← BitVec.xor_assoc]
  · have := xor4 (x >>> 1) 0x82F63B78#32 (y >>> 1) 0x82F63B78#32
    rw [this]; simp
theorem sh_zero : sh 0#32 = 0#32 := by decide
theorem shN_xor (n : Nat) : ∀ x y : BitVec 32, shN n (x ^^^ y) = shN n x ^^^ shN n y := by
  induction n with
  | zero => intro x y; rfl
  | succ n ih => intro x y; show shN n (sh (x ^^^ y)) = _; rw [sh_xor, ih]; rfl
theorem shN_zero (n : Nat) : shN n 0#32 = 0#32 := by
  induction n with
  | zero => rfl
  | succ n ih => show shN n (sh 0#32) = _; rw [sh_zero, ih]
theorem shN_add (m n : Nat) : ∀ x, shN (m + n) x = shN n (shN m x) := by
  induction m with
  | zero => intro x; rw [Nat.zero_add]; rfl
  | succ m ih => intro x; rw [Nat.succ_add]; show shN (m + n) (sh x) = _; rw [ih]; rfl
theorem shN_succ (n : Nat) (x : BitVec 32) : shN (n + 1) x = sh (shN n x) := by rw [shN_add]; rfl

/-- What went out stands in the highest bit: the shift loses nothing. -/
theorem sh_msb (x : BitVec 32) : (sh x).msb = x.getLsbD 0 := by
  unfold sh
  cases h : x.getLsbD 0
  · simp [BitVec.msb_ushiftRight]
  · simp [BitVec.msb_ushiftRight]; decide
theorem sh_eq_zero (x : BitVec 32) (h : sh x = 0#32) : x = 0#32 := by
  have h0 : x.getLsbD 0 = false := by rw [← sh_msb, h]; decide
  unfold sh at h
  rw [h0] at h
  simp only [Bool.false_eq_true, if_false] at h
  apply BitVec.eq_of_getLsbD_eq
  intro i hi
  rw [BitVec.getLsbD_zero]
  cases i with
  | zero => exact h0
  | succ i =>
    have := congrArg (fun v : BitVec 32 => v.getLsbD i) h
    simpa [BitVec.getLsbD_ushiftRight, Nat.add_comm] using this
theorem shN_eq_zero (n : Nat) : ∀ x, shN n x = 0#32 → x = 0#32 := by
  induction n with
  | zero => intro x h; exact h
  | succ n ih => intro x h; exact sh_eq_zero x (ih _ h)
theorem shN_inj (n : Nat) (x y : BitVec 32) (h : shN n x = shN n y) : x = y := by
  have h2 : shN n (x ^^^ y) = 0#32 := by rw [shN_xor, h, BitVec.xor_self]
  have h3 := shN_eq_zero n _ h2
  have h4 : (x ^^^ y) ^^^ y = 0#32 ^^^ y := by rw [h3]
  rw [BitVec.xor_assoc, BitVec.xor_self] at h4
  simpa using h4

/-! ### Two linear maps that agree at the 32 single bits are one -/
def low (n : Nat) (q : BitVec 32) : BitVec 32 := BitVec.ofNat 32 (q.toNat % 2 ^ n)
theorem low_bit (n i : Nat) (q : BitVec 32) (hi : i < 32) : (low n q).getLsbD i = (decide (i < n) && q.getLsbD i) := by
  unfold low
  rw [BitVec.getLsbD_ofNat, Nat.testBit_mod_two_pow]
  simp [hi, BitVec.testBit_toNat]
theorem low_zero (q : BitVec 32) : low 0 q = 0#32 := by unfold low; simp [Nat.mod_one]
theorem low_all (q : BitVec 32) : low 32 q = q := by
  apply BitVec.eq_of_getLsbD_eq
  intro i hi
  rw [low_bit _ _ _ hi]; simp [hi]
theorem one_bit (n i : Nat) (hi : i < 32) : (1#32 <<< n).getLsbD i = decide (i = n) := by
  rw [BitVec.getLsbD_shiftLeft, BitVec.getLsbD_one]
  by_cases h : i = n
  · subst h; simp [hi]
  · by_cases h2 : i < n <;> simp [h, h2, hi]
    omega
theorem low_succ (n : Nat) (q : BitVec 32) : low (n + 1) q = low n q ^^^ (if q.getLsbD n then 1#32 <<< n else 0#32) := by
  apply BitVec.eq_of_getLsbD_eq
  intro i hi
  rw [BitVec.getLsbD_xor, low_bit _ _ _ hi, low_bit _ _ _ hi]
  by_cases hq : q.getLsbD n
  · rw [if_pos hq, one_bit _ _ hi]
    by_cases h : i = n
    · subst h; simp [hq]
    · by_cases h2 : i < n
      · simp [h, h2, Nat.lt_succ_of_lt h2]
      · have : ¬ i < n + 1 := by omega
        simp [h, h2, this]
  · rw [if_neg hq]
    by_cases h : i = n
    · subst h; simp [hq]
    · by_cases h2 : i < n
      · simp [h2, Nat.lt_succ_of_lt h2]
      · have : ¬ i < n + 1 := by omega
        simp [h2, this]
theorem lin_ext (f g : BitVec 32 → BitVec 32) (hf : ∀ x y, f (x ^^^ y) = f x ^^^ f y) (hg : ∀ x y, g (x ^^^ y) = g x ^^^ g y)
    (h : ∀ i, i < 32 → f (1#32 <<< i) = g (1#32 <<< i)) (q : BitVec 32) : f q = g q := by
  have f0 : f 0#32 = 0#32 := by
    have := hf 0#32 0#32
    rw [BitVec.xor_self] at this
    rw [this, BitVec.xor_self]
  have g0 : g 0#32 = 0#32 := by
    have := hg 0#32 0#32
    rw [BitVec.xor_self] at this
    rw [this, BitVec.xor_self]
  have hn : ∀ n, n ≤ 32 → f (low n q) = g (low n q) := by
    intro n
    induction n with
    | zero => intro _; rw [low_zero, f0, g0]
    | succ n ih =>
      intro hle
      rw [low_succ, hf, hg, ih (by omega)]
      by_cases hq : q.getLsbD n
      · rw [if_pos hq, h n (by omega)]
      · rw [if_neg hq, f0, g0]
  rw [← low_all q]
  exact hn 32 (Nat.le_refl _)

/-! ### Products -/
theorem mulAux_xor_right (n : Nat) : ∀ p x y, mulAux n p (x ^^^ y) = mulAux n p x ^^^ mulAux n p y := by
  induction n with
  | zero => intro p x y; simp [mulAux]
  | succ n ih =>
    intro p x y
    simp only [mulAux]
    rw [sh_xor, ih]
    cases p.msb
    · simp
    · simp only [if_true]; exact xor4 _ _ _ _
theorem mulAux_xor_left (n : Nat) : ∀ p r q, mulAux n (p ^^^ r) q = mulAux n p q ^^^ mulAux n r q := by
  induction n with
  | zero => intro p r q; simp [mulAux]
  | succ n ih =>
    intro p r q
    simp only [mulAux]
    rw [BitVec.shiftLeft_xor_distrib, ih, BitVec.msb_xor]
    cases p.msb <;> cases r.msb <;> simp
    · rw [← BitVec.xor_assoc, ← BitVec.xor_assoc, BitVec.xor_comm q]
    · rw [BitVec.xor_assoc]
    · have := xor4 q (mulAux n (p <<< 1) (sh q)) q (mulAux n (r <<< 1) (sh q))
      rw [this]; simp
theorem mulAux_zero (n : Nat) : ∀ q, mulAux n 0#32 q = 0#32 := by
  induction n with
  | zero => intro q; rfl
  | succ n ih => intro q; simp [mulAux, ih]
theorem mulAux_sh (n : Nat) : ∀ p q, mulAux n p (sh q) = sh (mulAux n p q) := by
  induction n with
  | zero => intro p q; simp [mulAux, sh_zero]
  | succ n ih =>
    intro p q
    simp only [mulAux]
    rw [sh_xor, ih]
    cases p.msb <;> simp [sh_zero]
theorem mul_xor_left (p r q : BitVec 32) : mul (p ^^^ r) q = mul p q ^^^ mul r q := mulAux_xor_left 32 p r q
theorem mul_xor_right (p x y : BitVec 32) : mul p (x ^^^ y) = mul p x ^^^ mul p y := mulAux_xor_right 32 p x y
theorem mul_comm_basis : (List.range 32).all (fun i => (List.range 32).all fun j => mul (1#32 <<< i) (1#32 <<< j) == mul (1#32 <<< j) (1#32 <<< i)) = true := by decide +kernel
theorem mul_comm (p q : BitVec 32) : mul p q = mul q p := by
  refine lin_ext (fun p => mul p q) (fun p => mul q p) (fun x y => mul_xor_left x y q) (fun x y => mul_xor_right q x y) (fun i hi => ?_) p
  refine lin_ext (fun q => mul (1#32 <<< i) q) (fun q => mul q (1#32 <<< i)) (fun x y => mul_xor_right _ x y) (fun x y => mul_xor_left x y _) (fun j hj => ?_) q
  have h := mul_comm_basis
  rw [List.all_eq_true] at h
  have h2 := h i (List.mem_range.2 hi)
  rw [List.all_eq_true] at h2
  exact eq_of_beq (h2 j (List.mem_range.2 hj))
def one : BitVec 32 := 0x80000000#32
theorem one_mul (q : BitVec 32) : mul one q = q := by
  show (if one.msb then q else 0#32) ^^^ mulAux 31 (one <<< 1) (sh q) = q
  rw [show one <<< 1 = 0#32 by decide, mulAux_zero, show one.msb = true by decide]
  simp
theorem sh_mul (p q : BitVec 32) : mul (sh p) q = sh (mul p q) := by
  rw [mul_comm, mul_comm p q]; exact mulAux_sh 32 q p
theorem pow_mul (n : Nat) (q : BitVec 32) : mul (shN n one) q = shN n q := by
  induction n with
  | zero => exact one_mul q
  | succ n ih => rw [shN_succ, shN_succ, sh_mul, ih]
theorem mul_pow (n : Nat) (q : BitVec 32) : mul q (shN n one) = shN n q := by rw [mul_comm, pow_mul]
theorem pow_pow (n : Nat) : mul (shN n one) (shN n one) = shN (n + n) one := by rw [pow_mul, ← shN_add]
theorem octet_pow : (8388608#32 : BitVec 32) = shN 8 one := by decide

/-! ### Rows -/
theorem crc_nil (c : BitVec 32) : crc c [] = c := rfl
theorem crc_cons (c : BitVec 32) (z : Int) (zs : List Int) : crc c (z :: zs) = crc (shN 8 (c ^^^ BitVec.ofInt 32 z)) zs := rfl
theorem crc_append (c : BitVec 32) (xs ys : List Int) : crc c (xs ++ ys) = crc (crc c xs) ys := by unfold crc; rw [List.foldl_append]
theorem crc_snoc (c : BitVec 32) (xs : List Int) (z : Int) : crc c (xs ++ [z]) = shN 8 (crc c xs ^^^ BitVec.ofInt 32 z) := by rw [crc_append]; rfl
/-- What stood ahead goes through as many shifts as there are bits. -/
theorem crc_ahead (zs : List Int) : ∀ c d, crc (c ^^^ d) zs = shN (8 * zs.length) c ^^^ crc d zs := by
  induction zs with
  | nil => intro c d; rfl
  | cons z zs ih =>
    intro c d
    rw [crc_cons, crc_cons, BitVec.xor_assoc, shN_xor, ih, ← shN_add, List.length_cons, show 8 * (zs.length + 1) = 8 + 8 * zs.length by omega]
theorem not_eq_xor (x : BitVec 32) : ~~~ x = x ^^^ 0xFFFFFFFF#32 := by
  rw [← BitVec.xor_allOnes]; rfl
theorem not_xor (x y : BitVec 32) : ~~~ (x ^^^ y) = x ^^^ ~~~ y := by rw [not_eq_xor, not_eq_xor, BitVec.xor_assoc]
/-- The sum of a row. -/
def sum (zs : List Int) : BitVec 32 := ~~~ (crc 0xFFFFFFFF#32 zs)
theorem sum_nil : sum [] = 0#32 := by decide
/-- Sums joined. -/
theorem sum_append (xs ys : List Int) : shN (8 * ys.length) (sum xs) ^^^ sum ys = sum (xs ++ ys) := by
  unfold sum
  rw [crc_append]
  have h1 := crc_ahead ys (~~~ (crc 0xFFFFFFFF#32 xs)) 0xFFFFFFFF#32
  have h2 : (~~~ (crc 0xFFFFFFFF#32 xs)) ^^^ 0xFFFFFFFF#32 = crc 0xFFFFFFFF#32 xs := by
    rw [not_eq_xor, BitVec.xor_assoc, BitVec.xor_self]; simp
  rw [h2] at h1
  rw [h1, not_xor]
end Go.Proofs.YtpdfmpegcejmkaaGreatDoor.Mx
namespace Go.Proofs.YtpdfmpegcejmkaaGreatDoor.Mx
theorem crc_set (zs : List Int) (q : Nat) (z' : Int) (c d : BitVec 32) (hq : q < zs.length) (h : BitVec.ofInt 32 z' = BitVec.ofInt 32 (zs.getD q 0) ^^^ d) :
    crc c (zs.set q z') = crc c zs ^^^ shN (8 * (zs.length - q)) d := by
  have hs : zs = zs.take q ++ zs.getD q 0 :: zs.drop (q + 1) := by
    rw [List.getD_eq_getElem?_getD, List.getElem?_eq_getElem hq, Option.getD_some, ← List.drop_eq_getElem_cons hq, List.take_append_drop]
  have hset : zs.set q z' = zs.take q ++ z' :: zs.drop (q + 1) := by rw [List.set_eq_take_append_cons_drop, if_pos hq]
  rw [hset]
  conv => rhs; rw [hs]
  rw [crc_append, crc_append, crc_cons, crc_cons, h, ← BitVec.xor_assoc, shN_xor, BitVec.xor_comm, crc_ahead, ← shN_add, BitVec.xor_comm]
  congr 2
  simp
  omega
theorem unit_back : (List.range 32).all (fun j => shN j (1#32 <<< j) == 1#32) = true := by decide +kernel
theorem unit_at (j : Nat) (hj : j < 32) : shN j (1#32 <<< j) = 1#32 := by
  have h := unit_back
  rw [List.all_eq_true] at h
  exact eq_of_beq (h j (List.mem_range.2 hj))
theorem unit_shift (m j : Nat) (hj : j < 32) (h : j ≤ m) : shN m (1#32 <<< j) = shN (m - j) 1#32 := by
  have := shN_add j (m - j) (1#32 <<< j)
  rw [show j + (m - j) = m by omega, unit_at j hj] at this
  exact this
/-- Bit k of the run turned at place f + k. -/
theorem turn_step (zs pz : List Int) (f k n : Nat) (z' : Int) (c t : BitVec 32) (hn : zs.length = n) (hk : k < 32) (hf : f + k < 8 * n)
    (h : BitVec.ofInt 32 z' = BitVec.ofInt 32 (zs.getD ((f + k) / 8) 0) ^^^ (if t.getLsbD k then 1#32 <<< ((f + k) % 8) else 0#32))
    (hc : crc c zs = crc c pz ^^^ shN (8 * n - f) (low k t)) :
    crc c (zs.set ((f + k) / 8) z') = crc c pz ^^^ shN (8 * n - f) (low (k + 1) t) := by
  rw [crc_set zs _ z' c _ (by omega) h, hc, low_succ, shN_xor, BitVec.xor_assoc]
  congr 2
  by_cases hb : t.getLsbD k
  · rw [if_pos hb, if_pos hb, unit_shift _ _ (by omega) (by omega), unit_shift _ _ hk (by omega)]
    congr 1
    omega
  · rw [if_neg hb, if_neg hb, shN_zero, shN_zero]
theorem low_none (k : Nat) (t : BitVec 32) (h : low (k + 1) t = 0#32) (hk : k < 32) : t.getLsbD k = false ∧ low k t = 0#32 := by
  have h0 : t.getLsbD k = false := by
    have := congrArg (fun v : BitVec 32 => v.getLsbD k) h
    simp only [low_bit _ _ _ hk, BitVec.getLsbD_zero] at this
    simpa using this
  refine ⟨h0, ?_⟩
  rw [low_succ, h0] at h
  simpa using h
theorem crc_turned (zs pz : List Int) (m k : Nat) (t : BitVec 32) (c : BitVec 32) (hc : crc c zs = crc c pz ^^^ shN m (low k t)) (h : crc c zs = crc c pz) : low k t = 0#32 := by
  rw [h] at hc
  have : shN m (low k t) = 0#32 := by
    have h2 : crc c pz ^^^ crc c pz = crc c pz ^^^ (crc c pz ^^^ shN m (low k t)) := by rw [← hc]
    rw [BitVec.xor_self, ← BitVec.xor_assoc, BitVec.xor_self] at h2
    simpa using h2.symm
  exact shN_eq_zero _ _ this
theorem not_inj (x y : BitVec 32) (h : ~~~ x = ~~~ y) : x = y := by
  rw [not_eq_xor, not_eq_xor] at h
  have : (x ^^^ 0xFFFFFFFF#32) ^^^ 0xFFFFFFFF#32 = (y ^^^ 0xFFFFFFFF#32) ^^^ 0xFFFFFFFF#32 := by rw [h]
  rw [BitVec.xor_assoc, BitVec.xor_assoc, BitVec.xor_self] at this
  simpa using this
theorem sum_turned (zs pz : List Int) (m k : Nat) (t : BitVec 32) (hc : crc 0xFFFFFFFF#32 zs = crc 0xFFFFFFFF#32 pz ^^^ shN m (low k t)) (hz : low k t = 0#32 → zs = pz) : sum zs = sum pz ↔ zs = pz :=
  ⟨fun h => hz (crc_turned zs pz m k t _ hc (not_inj _ _ h)), fun h => by rw [h]⟩
end Go.Proofs.YtpdfmpegcejmkaaGreatDoor.Mx
