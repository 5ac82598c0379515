/- Plain mathematics of CRC-32C over words of 32 bits: the shift, its powers, products of residues, rows of bytes; no program is named here. -/
/- Plain mathematics of bits turned in a row of bytes: what a turned bit makes of the sum; bits turned within 32 turn it. -/
/- Disks by the page (layer 3): blocks that are stored, writes that wait; what each call makes of them. -/
import Derived.WalkKit
import Derived.Laws.BitsAllLaws
namespace Go.Proofs.YtpdfmpegcejmkaaGreatDoor.Mx

/-- One shift to the right, with exclusive or of the divisor where a one went out. -/
def sh (x : BitVec 32) : BitVec 32 := if x.getLsbD 0 then (x >>> 1) ^^^ 0x82F63B78#32 else x >>> 1
def shN : Nat → BitVec 32 → BitVec 32
  | 0, x => x
  | n + 1, x => shN n (sh x)
/-- The row of bytes taken in, one by one. -/
def crc (c : BitVec 32) (zs : List Int) : BitVec 32 := zs.foldl (fun c z => shN 8 (c ^^^ BitVec.ofInt 32 z)) c
/-- The product, bit by bit from the highest down. -/
def mulAux : Nat → BitVec 32 → BitVec 32 → BitVec 32
  | 0, _, _ => 0#32
  | n + 1, p, q => (if p.msb then q else 0#32) ^^^ mulAux n (p <<< 1) (sh q)
def mul (p q : BitVec 32) : BitVec 32 := mulAux 32 p q

theorem xor4 (a b c d : BitVec 32) : (a ^^^ b) ^^^ (c ^^^ d) = (a ^^^ c) ^^^ (b ^^^ d) := by
  rw [BitVec.xor_assoc, BitVec.xor_assoc, ← BitVec.xor_assoc b c d, BitVec.xor_comm b c, BitVec.xor_assoc c b d]

theorem sh_xor (x y : BitVec 32) : sh (x ^^^ y) = sh x ^^^ sh y := by
  unfold sh
  rw [BitVec.getLsbD_xor, BitVec.ushiftRight_xor_distrib]
  cases hx : x.getLsbD 0 <;> cases hy : y.getLsbD 0 <;> simp
  · rw [← BitVec.xor_assoc]
  · rw [BitVec.xor_assoc, BitVec.xor_comm (y >>> 1), ← BitVec.xor_assoc]
  · have := xor4 (x >>> 1) 0x82F63B78#32 (y >>> 1) 0x82F63B78#32
    rw [this]; simp
theorem sh_zero : sh 0#32 = 0#32 := by decide
theorem shN_xor (n : Nat) : ∀ x y : BitVec 32, shN n (x ^^^ y) = shN n x ^^^ shN n y := by
  induction n with
  | zero => intro x y; rfl
  | succ n ih => intro x y; show shN n (sh (x ^^^ y)) = _; rw [sh_xor, ih]; rfl
theorem shN_zero (n : Nat) : shN n 0#32 = 0#32 := by
  induction n with
  | zero => rfl
  | succ n ih => show shN n (sh 0#32) = _; rw [sh_zero, ih]
theorem shN_add (m n : Nat) : ∀ x, shN (m + n) x = shN n (shN m x) := by
  induction m with
  | zero => intro x; rw [Nat.zero_add]; rfl
  | succ m ih => intro x; rw [Nat.succ_add]; show shN (m + n) (sh x) = _; rw [ih]; rfl
theorem shN_succ (n : Nat) (x : BitVec 32) : shN (n + 1) x = sh (shN n x) := by rw [shN_add]; rfl

/-- What went out stands in the highest bit: the shift loses nothing. -/
theorem sh_msb (x : BitVec 32) : (sh x).msb = x.getLsbD 0 := by
  unfold sh
  cases h : x.getLsbD 0
  · simp [BitVec.msb_ushiftRight]
  · simp [BitVec.msb_ushiftRight]; decide
theorem sh_eq_zero (x : BitVec 32) (h : sh x = 0#32) : x = 0#32 := by
  have h0 : x.getLsbD 0 = false := by rw [← sh_msb, h]; decide
  unfold sh at h
  rw [h0] at h
  simp only [Bool.false_eq_true, if_false] at h
  apply BitVec.eq_of_getLsbD_eq
  intro i hi
  rw [BitVec.getLsbD_zero]
  cases i with
  | zero => exact h0
  | succ i =>
    have := congrArg (fun v : BitVec 32 => v.getLsbD i) h
    simpa [BitVec.getLsbD_ushiftRight, Nat.add_comm] using this
theorem shN_eq_zero (n : Nat) : ∀ x, shN n x = 0#32 → x = 0#32 := by
  induction n with
  | zero => intro x h; exact h
  | succ n ih => intro x h; exact sh_eq_zero x (ih _ h)
theorem shN_inj (n : Nat) (x y : BitVec 32) (h : shN n x = shN n y) : x = y := by
  have h2 : shN n (x ^^^ y) = 0#32 := by rw [shN_xor, h, BitVec.xor_self]
  have h3 := shN_eq_zero n _ h2
  have h4 : (x ^^^ y) ^^^ y = 0#32 ^^^ y := by rw [h3]
  rw [BitVec.xor_assoc, BitVec.xor_self] at h4
  simpa using h4

/-! ### Two linear maps that agree at the 32 single bits are one -/
def low (n : Nat) (q : BitVec 32) : BitVec 32 := BitVec.ofNat 32 (q.toNat % 2 ^ n)
theorem low_bit (n i : Nat) (q : BitVec 32) (hi : i < 32) : (low n q).getLsbD i = (decide (i < n) && q.getLsbD i) := by
  unfold low
  rw [BitVec.getLsbD_ofNat, Nat.testBit_mod_two_pow]
  simp [hi, BitVec.testBit_toNat]
theorem low_zero (q : BitVec 32) : low 0 q = 0#32 := by unfold low; simp [Nat.mod_one]
theorem low_all (q : BitVec 32) : low 32 q = q := by
  apply BitVec.eq_of_getLsbD_eq
  intro i hi
  rw [low_bit _ _ _ hi]; simp [hi]
theorem one_bit (n i : Nat) (hi : i < 32) : (1#32 <<< n).getLsbD i = decide (i = n) := by
  rw [BitVec.getLsbD_shiftLeft, BitVec.getLsbD_one]
  by_cases h : i = n
  · subst h; simp [hi]
  · by_cases h2 : i < n <;> simp [h, h2, hi]
    omega
theorem low_succ (n : Nat) (q : BitVec 32) : low (n + 1) q = low n q ^^^ (if q.getLsbD n then 1#32 <<< n else 0#32) := by
  apply BitVec.eq_of_getLsbD_eq
  intro i hi
  rw [BitVec.getLsbD_xor, low_bit _ _ _ hi, low_bit _ _ _ hi]
  by_cases hq : q.getLsbD n
  · rw [if_pos hq, one_bit _ _ hi]
    by_cases h : i = n
    · subst h; simp [hq]
    · by_cases h2 : i < n
      · simp [h, h2, Nat.lt_succ_of_lt h2]
      · have : ¬ i < n + 1 := by omega
        simp [h, h2, this]
  · rw [if_neg hq]
    by_cases h : i = n
    · subst h; simp [hq]
    · by_cases h2 : i < n
      · simp [h2, Nat.lt_succ_of_lt h2]
      · have : ¬ i < n + 1 := by omega
        simp [h2, this]
theorem lin_ext (f g : BitVec 32 → BitVec 32) (hf : ∀ x y, f (x ^^^ y) = f x ^^^ f y) (hg : ∀ x y, g (x ^^^ y) = g x ^^^ g y)
    (h : ∀ i, i < 32 → f (1#32 <<< i) = g (1#32 <<< i)) (q : BitVec 32) : f q = g q := by
  have f0 : f 0#32 = 0#32 := by
    have := hf 0#32 0#32
    rw [BitVec.xor_self] at this
    rw [this, BitVec.xor_self]
  have g0 : g 0#32 = 0#32 := by
    have := hg 0#32 0#32
    rw [BitVec.xor_self] at this
    rw [this, BitVec.xor_self]
  have hn : ∀ n, n ≤ 32 → f (low n q) = g (low n q) := by
    intro n
    induction n with
    | zero => intro _; rw [low_zero, f0, g0]
    | succ n ih =>
      intro hle
      rw [low_succ, hf, hg, ih (by omega)]
      by_cases hq : q.getLsbD n
      · rw [if_pos hq, h n (by omega)]
      · rw [if_neg hq, f0, g0]
  rw [← low_all q]
  exact hn 32 (Nat.le_refl _)

/-! ### Products -/
theorem mulAux_xor_right (n : Nat) : ∀ p x y, mulAux n p (x ^^^ y) = mulAux n p x ^^^ mulAux n p y := by
  induction n with
  | zero => intro p x y; simp [mulAux]
  | succ n ih =>
    intro p x y
    simp only [mulAux]
    rw [sh_xor, ih]
    cases p.msb
    · simp
    · simp only [if_true]; exact xor4 _ _ _ _
theorem mulAux_xor_left (n : Nat) : ∀ p r q, mulAux n (p ^^^ r) q = mulAux n p q ^^^ mulAux n r q := by
  induction n with
  | zero => intro p r q; simp [mulAux]
  | succ n ih =>
    intro p r q
    simp only [mulAux]
    rw [BitVec.shiftLeft_xor_distrib, ih, BitVec.msb_xor]
    cases p.msb <;> cases r.msb <;> simp
    · rw [← BitVec.xor_assoc, ← BitVec.xor_assoc, BitVec.xor_comm q]
    · rw [BitVec.xor_assoc]
    · have := xor4 q (mulAux n (p <<< 1) (sh q)) q (mulAux n (r <<< 1) (sh q))
      rw [this]; simp
theorem mulAux_zero (n : Nat) : ∀ q, mulAux n 0#32 q = 0#32 := by
  induction n with
  | zero => intro q; rfl
  | succ n ih => intro q; simp [mulAux, ih]
theorem mulAux_sh (n : Nat) : ∀ p q, mulAux n p (sh q) = sh (mulAux n p q) := by
  induction n with
  | zero => intro p q; simp [mulAux, sh_zero]
  | succ n ih =>
    intro p q
    simp only [mulAux]
    rw [sh_xor, ih]
    cases p.msb <;> simp [sh_zero]
theorem mul_xor_left (p r q : BitVec 32) : mul (p ^^^ r) q = mul p q ^^^ mul r q := mulAux_xor_left 32 p r q
theorem mul_xor_right (p x y : BitVec 32) : mul p (x ^^^ y) = mul p x ^^^ mul p y := mulAux_xor_right 32 p x y
theorem mul_comm_basis : (List.range 32).all (fun i => (List.range 32).all fun j => mul (1#32 <<< i) (1#32 <<< j) == mul (1#32 <<< j) (1#32 <<< i)) = true := by decide +kernel
theorem mul_comm (p q : BitVec 32) : mul p q = mul q p := by
  refine lin_ext (fun p => mul p q) (fun p => mul q p) (fun x y => mul_xor_left x y q) (fun x y => mul_xor_right q x y) (fun i hi => ?_) p
  refine lin_ext (fun q => mul (1#32 <<< i) q) (fun q => mul q (1#32 <<< i)) (fun x y => mul_xor_right _ x y) (fun x y => mul_xor_left x y _) (fun j hj => ?_) q
  have h := mul_comm_basis
  rw [List.all_eq_true] at h
  have h2 := h i (List.mem_range.2 hi)
  rw [List.all_eq_true] at h2
  exact eq_of_beq (h2 j (List.mem_range.2 hj))
def one : BitVec 32 := 0x80000000#32
theorem one_mul (q : BitVec 32) : mul one q = q := by
  show (if one.msb then q else 0#32) ^^^ mulAux 31 (one <<< 1) (sh q) = q
  rw [show one <<< 1 = 0#32 by decide, mulAux_zero, show one.msb = true by decide]
  simp
theorem sh_mul (p q : BitVec 32) : mul (sh p) q = sh (mul p q) := by
  rw [mul_comm, mul_comm p q]; exact mulAux_sh 32 q p
theorem pow_mul (n : Nat) (q : BitVec 32) : mul (shN n one) q = shN n q := by
  induction n with
  | zero => exact one_mul q
  | succ n ih => rw [shN_succ, shN_succ, sh_mul, ih]
theorem mul_pow (n : Nat) (q : BitVec 32) : mul q (shN n one) = shN n q := by rw [mul_comm, pow_mul]
theorem pow_pow (n : Nat) : mul (shN n one) (shN n one) = shN (n + n) one := by rw [pow_mul, ← shN_add]
theorem octet_pow : (8388608#32 : BitVec 32) = shN 8 one := by decide

/-! ### Rows -/
theorem crc_nil (c : BitVec 32) : crc c [] = c := rfl
theorem crc_cons (c : BitVec 32) (z : Int) (zs : List Int) : crc c (z :: zs) = crc (shN 8 (c ^^^ BitVec.ofInt 32 z)) zs := rfl
theorem crc_append (c : BitVec 32) (xs ys : List Int) : crc c (xs ++ ys) = crc (crc c xs) ys := by unfold crc; rw [List.foldl_append]
theorem crc_snoc (c : BitVec 32) (xs : List Int) (z : Int) : crc c (xs ++ [z]) = shN 8 (crc c xs ^^^ BitVec.ofInt 32 z) := by rw [crc_append]; rfl
/-- What stood ahead goes through as many shifts as there are bits. -/
theorem crc_ahead (zs : List Int) : ∀ c d, crc (c ^^^ d) zs = shN (8 * zs.length) c ^^^ crc d zs := by
  induction zs with
  | nil => intro c d; rfl
  | cons z zs ih =>
    intro c d
    rw [crc_cons, crc_cons, BitVec.xor_assoc, shN_xor, ih, ← shN_add, List.length_cons, show 8 * (zs.length + 1) = 8 + 8 * zs.length by omega]
theorem not_eq_xor (x : BitVec 32) : ~~~ x = x ^^^ 0xFFFFFFFF#32 := by
  rw [← BitVec.xor_allOnes]; rfl
theorem not_xor (x y : BitVec 32) : ~~~ (x ^^^ y) = x ^^^ ~~~ y := by rw [not_eq_xor, not_eq_xor, BitVec.xor_assoc]
/-- The sum of a row. -/
def sum (zs : List Int) : BitVec 32 := ~~~ (crc 0xFFFFFFFF#32 zs)
theorem sum_nil : sum [] = 0#32 := by decide
/-- Sums joined. -/
theorem sum_append (xs ys : List Int) : shN (8 * ys.length) (sum xs) ^^^ sum ys = sum (xs ++ ys) := by
  unfold sum
  rw [crc_append]
  have h1 := crc_ahead ys (~~~ (crc 0xFFFFFFFF#32 xs)) 0xFFFFFFFF#32
  have h2 : (~~~ (crc 0xFFFFFFFF#32 xs)) ^^^ 0xFFFFFFFF#32 = crc 0xFFFFFFFF#32 xs := by
    rw [not_eq_xor, BitVec.xor_assoc, BitVec.xor_self]; simp
  rw [h2] at h1
  rw [h1, not_xor]
end Go.Proofs.YtpdfmpegcejmkaaGreatDoor.Mx
namespace Go.Proofs.YtpdfmpegcejmkaaGreatDoor.Mx
theorem crc_set (zs : List Int) (q : Nat) (z' : Int) (c d : BitVec 32) (hq : q < zs.length) (h : BitVec.ofInt 32 z' = BitVec.ofInt 32 (zs.getD q 0) ^^^ d) :
    crc c (zs.set q z') = crc c zs ^^^ shN (8 * (zs.length - q)) d := by
  have hs : zs = zs.take q ++ zs.getD q 0 :: zs.drop (q + 1) := by
    rw [List.getD_eq_getElem?_getD, List.getElem?_eq_getElem hq, Option.getD_some, ← List.drop_eq_getElem_cons hq, List.take_append_drop]
  have hset : zs.set q z' = zs.take q ++ z' :: zs.drop (q + 1) := by rw [List.set_eq_take_append_cons_drop, if_pos hq]
  rw [hset]
  conv => rhs; rw [hs]
  rw [crc_append, crc_append, crc_cons, crc_cons, h, ← BitVec.xor_assoc, shN_xor, BitVec.xor_comm, crc_ahead, ← shN_add, BitVec.xor_comm]
  congr 2
  simp
  omega
theorem unit_back : (List.range 32).all (fun j => shN j (1#32 <<< j) == 1#32) = true := by decide +kernel
theorem unit_at (j : Nat) (hj : j < 32) : shN j (1#32 <<< j) = 1#32 := by
  have h := unit_back
  rw [List.all_eq_true] at h
  exact eq_of_beq (h j (List.mem_range.2 hj))
theorem unit_shift (m j : Nat) (hj : j < 32) (h : j ≤ m) : shN m (1#32 <<< j) = shN (m - j) 1#32 := by
  have := shN_add j (m - j) (1#32 <<< j)
  rw [show j + (m - j) = m by omega, unit_at j hj] at this
  exact this
/-- Bit k of the run turned at place f + k. -/
theorem turn_step (zs pz : List Int) (f k n : Nat) (z' : Int) (c t : BitVec 32) (hn : zs.length = n) (hk : k < 32) (hf : f + k < 8 * n)
    (h : BitVec.ofInt 32 z' = BitVec.ofInt 32 (zs.getD ((f + k) / 8) 0) ^^^ (if t.getLsbD k then 1#32 <<< ((f + k) % 8) else 0#32))
    (hc : crc c zs = crc c pz ^^^ shN (8 * n - f) (low k t)) :
    crc c (zs.set ((f + k) / 8) z') = crc c pz ^^^ shN (8 * n - f) (low (k + 1) t) := by
  rw [crc_set zs _ z' c _ (by omega) h, hc, low_succ, shN_xor, BitVec.xor_assoc]
  congr 2
  by_cases hb : t.getLsbD k
  · rw [if_pos hb, if_pos hb, unit_shift _ _ (by omega) (by omega), unit_shift _ _ hk (by omega)]
    congr 1
    omega
  · rw [if_neg hb, if_neg hb, shN_zero, shN_zero]
theorem low_none (k : Nat) (t : BitVec 32) (h : low (k + 1) t = 0#32) (hk : k < 32) : t.getLsbD k = false ∧ low k t = 0#32 := by
  have h0 : t.getLsbD k = false := by
    have := congrArg (fun v : BitVec 32 => v.getLsbD k) h
    simp only [low_bit _ _ _ hk, BitVec.getLsbD_zero] at this
    simpa using this
  refine ⟨h0, ?_⟩
  rw [low_succ, h0] at h
  simpa using h
theorem crc_turned (zs pz : List Int) (m k : Nat) (t : BitVec 32) (c : BitVec 32) (hc : crc c zs = crc c pz ^^^ shN m (low k t)) (h : crc c zs = crc c pz) : low k t = 0#32 := by
  rw [h] at hc
  have : shN m (low k t) = 0#32 := by
    have h2 : crc c pz ^^^ crc c pz = crc c pz ^^^ (crc c pz ^^^ shN m (low k t)) := by rw [← hc]
    rw [BitVec.xor_self, ← BitVec.xor_assoc, BitVec.xor_self] at h2
    simpa using h2.symm
  exact shN_eq_zero _ _ this
theorem not_inj (x y : BitVec 32) (h : ~~~ x = ~~~ y) : x = y := by
  rw [not_eq_xor, not_eq_xor] at h
  have : (x ^^^ 0xFFFFFFFF#32) ^^^ 0xFFFFFFFF#32 = (y ^^^ 0xFFFFFFFF#32) ^^^ 0xFFFFFFFF#32 := by rw [h]
  rw [BitVec.xor_assoc, BitVec.xor_assoc, BitVec.xor_self] at this
  simpa using this
theorem sum_turned (zs pz : List Int) (m k : Nat) (t : BitVec 32) (hc : crc 0xFFFFFFFF#32 zs = crc 0xFFFFFFFF#32 pz ^^^ shN m (low k t)) (hz : low k t = 0#32 → zs = pz) : sum zs = sum pz ↔ zs = pz :=
  ⟨fun h => hz (crc_turned zs pz m k t _ hc (not_inj _ _ h)), fun h => by rw [h]⟩
end Go.Proofs.YtpdfmpegcejmkaaGreatDoor.Mx
namespace Go.Proofs.YtpdfmpegcejmkaaGreatDoor
/-- A disk: what is stored of each block, and whether it is hurt; writes that wait; what it counts. -/
structure DM where
  cells : List (List Int × Bool)
  waits : List (Nat × List Int)
  armed : Nat
  turns : Nat
  crashes : Nat
  down : Bool
abbrev nought : List Int × Bool := (List.replicate 256 0, false)
def BlkOk (b : List Int) : Prop := b.length = 256 ∧ ∀ z ∈ b, 0 ≤ z ∧ z < 256
structure DM.Ok (D : DM) : Prop where
  some_ : 0 < D.cells.length
  many : D.cells.length ≤ 4096
  bytes : ∀ (n : Nat) (c : List Int × Bool), D.cells[n]? = some c → BlkOk c.1
  wn : ∀ p ∈ D.waits, p.1 < D.cells.length
  wb : ∀ p ∈ D.waits, BlkOk p.2
def padB (bs : List Int) : List Int := bs ++ List.replicate (256 - bs.length) 0
theorem padB_ok {bs : List Int} (h : bs.length ≤ 256) (hb : ∀ z ∈ bs, 0 ≤ z ∧ z < 256) : BlkOk (padB bs) := by
  unfold padB
  refine ⟨by simp; omega, fun z hz => ?_⟩
  rcases List.mem_append.1 hz with hz | hz
  · exact hb z hz
  · rw [List.mem_replicate] at hz; omega
theorem nought_ok : BlkOk (List.replicate 256 (0 : Int)) := ⟨List.length_replicate, fun z hz => by rw [List.mem_replicate] at hz; omega⟩
/-- The number, counted from 1, of the last of the first k writes that is to block n; 0: there is none. -/
def lastAt (ws : List (Nat × List Int)) (n : Nat) : Nat → Nat
  | 0 => 0
  | k + 1 => if (ws[k]?.map (·.1)) = some n then k + 1 else lastAt ws n k
def lastOf (ws : List (Nat × List Int)) (n : Nat) : Nat := lastAt ws n ws.length
theorem lastAt_le (ws : List (Nat × List Int)) (n : Nat) : ∀ k, lastAt ws n k ≤ k
  | 0 => Nat.le_refl 0
  | k + 1 => by
    unfold lastAt
    split
    · exact Nat.le_refl _
    · exact Nat.le_trans (lastAt_le ws n k) (Nat.le_succ k)
theorem lastAt_app (ws : List (Nat × List Int)) (p : Nat × List Int) (n : Nat) : ∀ k, k ≤ ws.length → lastAt (ws ++ [p]) n k = lastAt ws n k
  | 0, _ => rfl
  | k + 1, h => by
    unfold lastAt
    rw [lastAt_app ws p n k (by omega), List.getElem?_append_left (by omega)]
theorem lastOf_app (ws : List (Nat × List Int)) (p : Nat × List Int) (n : Nat) : lastOf (ws ++ [p]) n = if p.1 = n then ws.length + 1 else lastOf ws n := by
  unfold lastOf
  rw [List.length_append, List.length_singleton]
  conv => lhs; unfold lastAt
  rw [lastAt_app ws p n _ (Nat.le_refl _)]
  simp
theorem lastOf_le (ws : List (Nat × List Int)) (n : Nat) : lastOf ws n ≤ ws.length := lastAt_le ws n _
theorem lastOf_nil (n : Nat) : lastOf [] n = 0 := rfl
/-- What is seen behind the first k writes. -/
def seenAt (ws : List (Nat × List Int)) (n : Nat) (b : List Int) : Nat → List Int
  | 0 => b
  | k + 1 => match ws[k]? with
    | some p => if p.1 = n then p.2 else seenAt ws n b k
    | none => seenAt ws n b k
theorem seenAt_last (ws : List (Nat × List Int)) (n : Nat) (b : List Int) : ∀ k, seenAt ws n b k = if lastAt ws n k = 0 then b else (ws.getD (lastAt ws n k - 1) (0, [])).2
  | 0 => rfl
  | k + 1 => by
    unfold seenAt lastAt
    cases h : ws[k]? with
    | none => simp [seenAt_last ws n b k]
    | some p =>
      by_cases hp : p.1 = n
      · simp [hp, List.getD_eq_getElem?_getD, h]
      · simp [hp, seenAt_last ws n b k]
def DM.stored (D : DM) (n : Nat) : List Int := (D.cells.getD n ([], false)).1
def DM.seen (D : DM) (n : Nat) : List Int := seenAt D.waits n (D.stored n) D.waits.length
theorem DM.seen_last (D : DM) (n : Nat) : D.seen n = if lastOf D.waits n = 0 then D.stored n else (D.waits.getD (lastOf D.waits n - 1) (0, [])).2 := seenAt_last _ _ _ _
theorem seenAt_ok {ws : List (Nat × List Int)} {n : Nat} {b : List Int} (hb : BlkOk b) (hw : ∀ p ∈ ws, BlkOk p.2) : ∀ k, BlkOk (seenAt ws n b k)
  | 0 => hb
  | k + 1 => by
    unfold seenAt
    split
    · next p h =>
      split
      · exact hw p (List.mem_of_getElem? h)
      · exact seenAt_ok hb hw k
    · exact seenAt_ok hb hw k
theorem DM.Ok.stored {D : DM} (h : D.Ok) {n : Nat} (hn : n < D.cells.length) : BlkOk (D.stored n) := by
  unfold DM.stored
  rw [List.getD_eq_getElem?_getD, List.getElem?_eq_getElem hn]
  exact h.bytes n _ (List.getElem?_eq_getElem hn)
theorem DM.Ok.seen {D : DM} (h : D.Ok) {n : Nat} (hn : n < D.cells.length) : BlkOk (D.seen n) := seenAt_ok (h.stored hn) h.wb _
/-- The first sectors of a write are stored. -/
def storeS (c : List Int × Bool) (b : List Int) (s : Nat) : List Int × Bool := (b.take (32 * s) ++ c.1.drop (32 * s), if s = 8 then false else c.2)
theorem storeS_zero (c : List Int × Bool) (b : List Int) : storeS c b 0 = c := by unfold storeS; simp
theorem storeS_ok {c : List Int × Bool} {b : List Int} {s : Nat} (hc : BlkOk c.1) (hb : BlkOk b) (hs : s ≤ 8) : BlkOk (storeS c b s).1 := by
  unfold storeS
  refine ⟨by simp [hb.1, hc.1]; omega, fun z hz => ?_⟩
  rcases List.mem_append.1 hz with hz | hz
  · exact hb.2 z (List.mem_of_mem_take hz)
  · exact hc.2 z (List.mem_of_mem_drop hz)
theorem storeS_whole {c : List Int × Bool} {b : List Int} (hc : BlkOk c.1) (hb : BlkOk b) : storeS c b 8 = (b, false) := by
  unfold storeS
  rw [List.take_of_length_le (by have := hb.1; omega), List.drop_eq_nil_of_le (by have := hc.1; omega)]; simp
/-- The first k writes are stored, so many sectors of each. -/
def settleK (cs : List (List Int × Bool)) (ws : List (Nat × List Int)) (f : Nat → Nat) : Nat → List (List Int × Bool)
  | 0 => cs
  | k + 1 => match ws[k]? with
    | some p => (settleK cs ws f k).set p.1 (storeS ((settleK cs ws f k).getD p.1 ([], false)) p.2 (f k))
    | none => settleK cs ws f k
theorem settleK_len (cs : List (List Int × Bool)) (ws : List (Nat × List Int)) (f : Nat → Nat) : ∀ k, (settleK cs ws f k).length = cs.length
  | 0 => rfl
  | k + 1 => by
    unfold settleK
    split
    · rw [List.length_set]; exact settleK_len cs ws f k
    · exact settleK_len cs ws f k
theorem settleK_ok {cs : List (List Int × Bool)} {ws : List (Nat × List Int)} {f : Nat → Nat} (hc : ∀ (n : Nat) c, cs[n]? = some c → BlkOk c.1) (hw : ∀ p ∈ ws, p.1 < cs.length ∧ BlkOk p.2) (hf : ∀ i, f i ≤ 8) :
    ∀ k (n : Nat) c, (settleK cs ws f k)[n]? = some c → BlkOk c.1
  | 0 => hc
  | k + 1 => by
    intro n c
    unfold settleK
    split
    · next p h =>
      have hp := hw p (List.mem_of_getElem? h)
      have hl := settleK_len cs ws f k
      rw [List.getElem?_set]
      split
      · split
        · next hn hlt =>
          intro e
          injection e with e
          subst e
          refine storeS_ok ?_ hp.2 (hf k)
          rw [List.getD_eq_getElem?_getD, List.getElem?_eq_getElem (by omega)]
          exact settleK_ok hc hw hf k p.1 _ (List.getElem?_eq_getElem (by omega))
        · intro e; cases e
      · exact settleK_ok hc hw hf k n c
    · exact settleK_ok hc hw hf k n c
def DM.settle (D : DM) (f : Nat → Nat) : DM := { D with cells := settleK D.cells D.waits f D.waits.length, waits := [] }
theorem DM.Ok.settle {D : DM} (h : D.Ok) {f : Nat → Nat} (hf : ∀ i, f i ≤ 8) : (D.settle f).Ok := by
  have hl := settleK_len D.cells D.waits f D.waits.length
  exact ⟨by have := h.some_; show 0 < (settleK _ _ _ _).length; omega, by have := h.many; show (settleK _ _ _ _).length ≤ _; omega,
    fun n c hc => settleK_ok h.bytes (fun p hp => ⟨h.wn p hp, h.wb p hp⟩) hf _ n c hc, (fun p hp => by cases hp), (fun p hp => by cases hp)⟩
/-- How many blocks are hurt. -/
def hurts (cs : List (List Int × Bool)) : Nat := cs.countP (·.2)
theorem hurts_set {cs : List (List Int × Bool)} {n : Nat} (h : n < cs.length) (x : List Int × Bool) : hurts (cs.set n x) = hurts cs - (if (cs.getD n ([], false)).2 then 1 else 0) + (if x.2 then 1 else 0) := by
  unfold hurts
  rw [List.countP_set h, List.getD_eq_getElem?_getD, List.getElem?_eq_getElem h]; rfl
theorem hurts_pos {cs : List (List Int × Bool)} {n : Nat} (h : (cs.getD n ([], false)).2 = true) : 0 < hurts cs := by
  unfold hurts
  rw [List.countP_pos_iff]
  rw [List.getD_eq_getElem?_getD] at h
  cases hq : cs[n]? with
  | none => rw [hq] at h; cases h
  | some c => rw [hq] at h; exact ⟨c, List.mem_of_getElem? hq, h⟩
theorem hurts_le (cs : List (List Int × Bool)) : hurts cs ≤ cs.length := List.countP_le_length
/-! ### What each call makes -/
def DM.has (D : DM) (n : Int) : Prop := 0 ≤ n ∧ n < D.cells.length
instance (D : DM) (n : Int) : Decidable (D.has n) := by unfold DM.has; exact inferInstance
def DM.trips (D : DM) : DM := { D with armed := 0, down := true, crashes := D.crashes + 1 }
def DM.turned (D : DM) : DM := { D with armed := D.armed - 1, turns := D.turns + 1 }
def DM.write (D : DM) (n : Int) (b : List Int) : Int × DM :=
  if D.down then (11, D) else if ¬ D.has n ∨ 256 < b.length then (2, D) else if D.armed = 1 then (11, D.trips) else (0, { D.turned with waits := D.waits ++ [(n.toNat, padB b)] })
def DM.sync (D : DM) : Int × DM := if D.down then (11, D) else if D.armed = 1 then (11, D.trips) else (0, D.turned.settle fun _ => 8)
def DM.arm (D : DM) (n : Int) : DM := if D.down then D else { D with armed := n.toNat }
def DM.crash (D : DM) : Int × DM := if D.down then (11, D) else (0, { D with down := true, crashes := D.crashes + 1 })
/-- The sectors that are stored of the i-th write. -/
def fate (stay torn sectors : Int) (i : Nat) : Nat :=
  if (i : Int) = torn then (sectors % 9).toNat else if bits .and .i64 (stay / 2 ^ (i % 60)) 1 = 1 then 8 else 0
def DM.wake (D : DM) (stay torn sectors : Int) : Int × DM := if D.down then (0, { D.settle (fate stay torn sectors) with armed := 0, down := false }) else (16, D)
def DM.hurt (D : DM) (n : Nat) (b : List Int) : Int × DM :=
  if b = D.stored n then (2, D) else if (D.cells.getD n ([], false)).2 then (16, D) else (0, { D with cells := D.cells.set n (b, true) })
def flipAt (b : List Int) (bit : Nat) (mask : Nat) (i : Nat) : List Int :=
  if mask.testBit i then b.set ((bit + i) / 8) (((b.getD ((bit + i) / 8) 0).toNat ^^^ (1 <<< ((bit + i) % 8)) : Nat) : Int) else b
def flipK (b : List Int) (bit mask : Nat) : Nat → List Int
  | 0 => b
  | k + 1 => flipAt (flipK b bit mask k) bit mask k
def DM.rot (D : DM) (n bit : Int) (mask : Nat) : Int × DM :=
  if D.has n ∧ 0 ≤ bit ∧ bit < 2048 then D.hurt n.toNat (flipK (D.stored n.toNat) bit.toNat mask (min 32 (2048 - bit.toNat))) else (2, D)
def DM.wipe (D : DM) (n : Int) : Int × DM := if D.has n then D.hurt n.toNat (List.replicate 256 0) else (2, D)
theorem xor_byte {x : Int} (hx : 0 ≤ x ∧ x < 256) {j : Nat} (hj : j < 8) : (0 : Int) ≤ ((x.toNat ^^^ (1 <<< j) : Nat) : Int) ∧ ((x.toNat ^^^ (1 <<< j) : Nat) : Int) < 256 := by
  have h1 : x.toNat < 2 ^ 8 := by omega
  have h2 : 1 <<< j < 2 ^ 8 := by
    rw [Nat.one_shiftLeft]; exact Nat.pow_lt_pow_right (by decide) hj
  have := Nat.xor_lt_two_pow h1 h2
  omega
theorem flipAt_ok {b : List Int} (h : BlkOk b) (bit mask i : Nat) : BlkOk (flipAt b bit mask i) := by
  unfold flipAt
  split
  · refine ⟨by rw [List.length_set]; exact h.1, fun z hz => ?_⟩
    rcases List.mem_or_eq_of_mem_set hz with hz | rfl
    · exact h.2 z hz
    · refine xor_byte ?_ (Nat.mod_lt _ (by decide))
      by_cases hlt : (bit + i) / 8 < b.length
      · rw [List.getD_eq_getElem?_getD, List.getElem?_eq_getElem hlt]
        exact h.2 _ (List.getElem_mem hlt)
      · rw [List.getD_eq_getElem?_getD, List.getElem?_eq_none (by omega)]; exact ⟨by decide, by decide⟩
  · exact h
theorem flipK_ok {b : List Int} (h : BlkOk b) (bit mask : Nat) : ∀ k, BlkOk (flipK b bit mask k)
  | 0 => h
  | k + 1 => flipAt_ok (flipK_ok h bit mask k) bit mask k
theorem DM.Ok.hurt {D : DM} (h : D.Ok) {n : Nat} {b : List Int} (hb : BlkOk b) : (D.hurt n b).2.Ok := by
  unfold DM.hurt
  split
  · exact h
  · split
    · exact h
    · refine ⟨by simpa using h.some_, by simpa using h.many, fun j c hj => ?_, (by simpa using h.wn), h.wb⟩
      rw [List.getElem?_set] at hj
      split at hj
      · split at hj
        · injection hj with hj; subst hj; exact hb
        · cases hj
      · exact h.bytes j c hj
theorem DM.Ok.rot {D : DM} (h : D.Ok) (n bit : Int) (mask : Nat) : (D.rot n bit mask).2.Ok := by
  unfold DM.rot
  split
  · next hc =>
    unfold DM.has at hc
    exact h.hurt (flipK_ok (h.stored (by omega)) _ _ _)
  · exact h
theorem DM.Ok.wipe {D : DM} (h : D.Ok) (n : Int) : (D.wipe n).2.Ok := by
  unfold DM.wipe
  split
  · exact h.hurt nought_ok
  · exact h
theorem DM.Ok.trips {D : DM} (h : D.Ok) : D.trips.Ok := ⟨h.1, h.2, h.3, h.4, h.5⟩
theorem DM.Ok.turned {D : DM} (h : D.Ok) : D.turned.Ok := ⟨h.1, h.2, h.3, h.4, h.5⟩
theorem DM.Ok.write {D : DM} (h : D.Ok) (n : Int) {b : List Int} (hb : ∀ z ∈ b, 0 ≤ z ∧ z < 256) : (D.write n b).2.Ok := by
  unfold DM.write
  split
  · exact h
  · split
    · exact h
    · next hc =>
      split
      · exact h.trips
      · unfold DM.has at hc
        refine ⟨h.1, h.2, h.3, fun p hp => ?_, fun p hp => ?_⟩
        · rcases List.mem_append.1 hp with hp | hp
          · exact h.wn p hp
          · obtain rfl := List.mem_singleton.1 hp
            show n.toNat < D.cells.length
            omega
        · rcases List.mem_append.1 hp with hp | hp
          · exact h.wb p hp
          · obtain rfl := List.mem_singleton.1 hp
            exact padB_ok (by omega) hb
theorem DM.Ok.sync {D : DM} (h : D.Ok) : D.sync.2.Ok := by
  unfold DM.sync
  split
  · exact h
  · split
    · exact h.trips
    · exact h.turned.settle (fun _ => Nat.le_refl 8)
theorem DM.Ok.arm {D : DM} (h : D.Ok) (n : Int) : (D.arm n).Ok := by
  unfold DM.arm
  split
  · exact h
  · exact ⟨h.1, h.2, h.3, h.4, h.5⟩
theorem DM.Ok.crash {D : DM} (h : D.Ok) : D.crash.2.Ok := by
  unfold DM.crash
  split
  · exact h
  · exact ⟨h.1, h.2, h.3, h.4, h.5⟩
theorem fate_le (stay torn sectors : Int) (i : Nat) : fate stay torn sectors i ≤ 8 := by
  unfold fate
  split
  · have := Int.emod_lt_of_pos sectors (show (0 : Int) < 9 by decide); omega
  · split <;> omega
theorem DM.Ok.wake {D : DM} (h : D.Ok) (stay torn sectors : Int) : (D.wake stay torn sectors).2.Ok := by
  unfold DM.wake
  split
  · have := h.settle (fate_le stay torn sectors)
    exact ⟨this.1, this.2, this.3, this.4, this.5⟩
  · exact h
/-- A new disk. -/
def DM.new (n : Nat) : DM := ⟨List.replicate n nought, [], 0, 0, 0, false⟩
theorem DM.new_ok {n : Nat} (h0 : 0 < n) (h1 : n ≤ 4096) : (DM.new n).Ok :=
  ⟨by simpa [DM.new] using h0, by simpa [DM.new] using h1, fun j c hc => by
    have := List.mem_of_getElem? hc
    unfold DM.new at this
    rw [List.mem_replicate] at this
    rw [this.2]; exact nought_ok, (fun p hp => by cases hp), (fun p hp => by cases hp)⟩
end Go.Proofs.YtpdfmpegcejmkaaGreatDoor
