/- Walks over mix's and the page's arithmetic: one shift, products, sums joined: each call's result as the plain functions have it; the world stays. -/
import Derived.Test.YtdmomeeilibnmaaDoorProg
import Derived.Test.YtdmomeeilibnmaaDoorMixMath
import Derived.WalkKit
import Derived.WalkLawsBesides
import Derived.WalkSpells
import Derived.Laws.BitsAllLaws
import Derived.LoopTactic
import Derived.Lib.Hide
import Derived.Deep.LoopGhost
import Derived.Outline
namespace Go.Proofs.YtdmomeeilibnmaaDoor
open Go.RowKit

theorem ret_int {k : IntKind} {a b : Int} (h : a = b) : Ending.returned (.int k a) = .returned (.int k b) := by rw [h]
theorem val_int {k : IntKind} {a b : Int} (h : a = b) : Value.int k a = .int k b := by rw [h]
theorem u32_toInt (x : BitVec 32) : BitVec.ofInt 32 (x.toNat : Int) = x := by
  rw [BitVec.ofInt_natCast, BitVec.ofNat_toNat]; simp
theorem u32_bd (x : BitVec 32) : (x.toNat : Int) < 4294967296 := by have := x.isLt; omega
theorem wrap_u32_id (x : BitVec 32) : IntKind.u32.wrap (x.toNat : Int) = x.toNat := by
  rw [IntKind.wrap_u32']; have := x.isLt; omega
theorem bits_xor (x y : Int) : bits .xor .u32 x y = ((BitVec.ofInt 32 x ^^^ BitVec.ofInt 32 y).toNat : Int) := wrap_u32_id _
theorem bits_and (x y : Int) : bits .and .u32 x y = ((BitVec.ofInt 32 x &&& BitVec.ofInt 32 y).toNat : Int) := wrap_u32_id _
theorem bits_or (x y : Int) : bits .or .u32 x y = ((BitVec.ofInt 32 x ||| BitVec.ofInt 32 y).toNat : Int) := wrap_u32_id _
theorem half (x : BitVec 32) : (x.toNat : Int) / (2 : Int) = ((x >>> 1).toNat : Int) := by
  rw [BitVec.toNat_ushiftRight, Nat.shiftRight_eq_div_pow]; rfl
theorem lsb_mod (x : BitVec 32) : x.getLsbD 0 = ((x.toNat : Int) % 2 == 1) := by
  rw [← BitVec.testBit_toNat, Nat.testBit_zero, Bool.eq_iff_iff]; simp; omega
theorem lsb_and (x : BitVec 32) : x.getLsbD 0 = (bits .and .u32 (x.toNat : Int) 1 == 1) := by
  rw [lsb_mod, bits_and, u32_toInt, BitVec.toNat_and, show (BitVec.ofInt 32 1).toNat = 1 by decide, Nat.and_one_is_mod]; rfl
theorem sh_one (x : BitVec 32) (h : x.getLsbD 0 = true) : bits .xor .u32 ((x.toNat : Int) / 2) 2197175160 = ((Mx.sh x).toNat : Int) := by
  rw [half, bits_xor, u32_toInt, Mx.sh, if_pos h, show BitVec.ofInt 32 2197175160 = 0x82F63B78#32 by decide]
theorem sh_none (x : BitVec 32) (h : x.getLsbD 0 = false) : (x.toNat : Int) / 2 = ((Mx.sh x).toNat : Int) := by
  rw [half, Mx.sh, h]; rfl

theorem shift_any (x : BitVec 32) (w : World) :
    Calls Tryd.prog 30 #[.int .u32 (x.toNat : Int)] w fun e w' => e = .returned (.int .u32 ((Mx.sh x).toNat : Int)) ∧ w = w' := by
  cases hb : x.getLsbD 0
  · have h := hb
    rw [lsb_and] at h
    have Hb := Lib.hid hb; clear hb
    go_enter Tryd.func30, Tryd.ntmps30
    go_wp2
    go_ret
    exact ⟨ret_int (sh_none x Hb.out), rfl⟩
  · have h := hb
    rw [lsb_and] at h
    have Hb := Lib.hid hb; clear hb
    go_enter Tryd.func30, Tryd.ntmps30
    go_wp2
    go_ret
    exact ⟨ret_int (sh_one x Hb.out), rfl⟩

theorem rshift_any (x : BitVec 32) (w : World) :
    Calls Tryd.prog 24 #[.int .u32 (x.toNat : Int)] w fun e w' => e = .returned (.int .u32 ((Mx.sh x).toNat : Int)) ∧ w = w' := by
  cases hb : x.getLsbD 0
  · have h := hb
    rw [lsb_mod] at h
    have Hb := Lib.hid hb; clear hb
    go_enter Tryd.func24, Tryd.ntmps24
    go_wp2
    go_ret
    exact ⟨ret_int (sh_none x Hb.out), rfl⟩
  · have h := hb
    rw [lsb_mod] at h
    have Hb := Lib.hid hb; clear hb
    go_enter Tryd.func24, Tryd.ntmps24
    go_wp2
    go_ret
    exact ⟨ret_int (sh_one x Hb.out), rfl⟩

theorem top_bit (x : BitVec 32) : x.msb = ((x.toNat : Int) / 2147483648 == 1) := by
  rw [BitVec.msb_eq_decide, Bool.eq_iff_iff]; have := x.isLt; simp; omega
theorem twice (x : BitVec 32) : (x.toNat : Int) * 2 % 4294967296 = ((x <<< 1).toNat : Int) := by
  rw [BitVec.toNat_shiftLeft, Nat.shiftLeft_eq]; omega
theorem ne_zero (x : BitVec 32) : ((x.toNat : Int) != 0) = !(x == 0#32) := by
  rw [Bool.eq_iff_iff]; simp [← BitVec.toNat_inj]
theorem times_step (n : Nat) (x y z : BitVec 32) (h : x.msb = true) : (z ^^^ y) ^^^ Mx.mulAux n (x <<< 1) (Mx.sh y) = z ^^^ Mx.mulAux (n + 1) x y := by
  show _ = z ^^^ ((if x.msb then y else 0#32) ^^^ Mx.mulAux n (x <<< 1) (Mx.sh y))
  rw [h, if_pos rfl, BitVec.xor_assoc]
theorem times_skip (n : Nat) (x y z : BitVec 32) (h : x.msb = false) : z ^^^ Mx.mulAux n (x <<< 1) (Mx.sh y) = z ^^^ Mx.mulAux (n + 1) x y := by
  show _ = z ^^^ ((if x.msb then y else 0#32) ^^^ Mx.mulAux n (x <<< 1) (Mx.sh y))
  rw [h]; simp
theorem top_of_true (x : BitVec 32) (h : ((x.toNat : Int) / 2147483648 == 1) = true) : x.msb = true := by rw [top_bit]; exact h
theorem top_of_false (x : BitVec 32) (h : ((x.toNat : Int) / 2147483648 == 1) = false) : x.msb = false := by rw [top_bit]; exact h
theorem xor_val (x y : BitVec 32) : bits .xor .u32 (x.toNat : Int) (y.toNat : Int) = ((x ^^^ y).toNat : Int) := by rw [bits_xor, u32_toInt, u32_toInt]
theorem shl_gone (p : BitVec 32) : p <<< 32 = 0#32 := by
  apply BitVec.eq_of_getLsbD_eq; intro i hi; simp [hi]
theorem shl_next (p : BitVec 32) (k : Nat) : (p <<< k) <<< 1 = p <<< (k + 1) := by rw [← BitVec.shiftLeft_add]
set_option maxRecDepth 100000 in
set_option maxHeartbeats 400000 in
theorem times_any (p q : BitVec 32) (w : World) :
    Calls Tryd.prog 25 #[.int .u32 (p.toNat : Int), .int .u32 (q.toNat : Int)] w fun e w' => e = .returned (.int .u32 ((Mx.mul p q).toNat : Int)) ∧ w = w' := by
  go_enter Tryd.func25, Tryd.ntmps25
  go_wp2
  go_loopg [0, 1, 5] 32 (fun g a b t wx => w = wx ∧ ∃ (x y z : BitVec 32), g ≤ 32 ∧ a = .int .u32 (x.toNat : Int) ∧ b = .int .u32 (y.toNat : Int) ∧ t = .int .u32 (z.toNat : Int) ∧ Hid (z ^^^ Mx.mulAux g x y = Mx.mul p q) ∧ Hid (x = p <<< (32 - g)))
  case atStart => exact ⟨rfl, p, q, 0#32, by omega, rfl, rfl, rfl, Lib.hid (by simp [Mx.mul]), Lib.hid (by simp)⟩
  case round =>
    obtain ⟨rfl, x, y, z, hg, rfl, rfl, rfl, hz, hx⟩ := hrel
    by_cases h0 : x = 0#32
    · subst h0
      go_wp2_with fail
      go_ret
      exact ⟨ret_int (by rw [← hz.out, Mx.mulAux_zero]; simp), rfl⟩
    · have hne : ((x.toNat : Int) != 0) = true := by rw [ne_zero]; simpa using h0
      obtain ⟨g', rfl⟩ : ∃ g', gk = g' + 1 := by
        cases gk with
        | zero => exact absurd (by rw [hx.out]; exact shl_gone p) h0
        | succ g' => exact ⟨g', rfl⟩
      clear h0
      go_wp2_with (go_at_call 30; refine (shift_any y _).mono ?_; rintro e w' ⟨rfl, rfl⟩)
      · go_roundg g'
        case measure => omega
        case rel => exact ⟨rfl, x <<< 1, Mx.sh y, z ^^^ y, by omega, val_int (twice x), rfl, val_int (xor_val z y), Lib.hid ((times_step g' x y z (top_of_true x (by assumption))).trans hz.out), Lib.hid (by rw [hx.out, shl_next, show 32 - (g' + 1) + 1 = 32 - g' by omega])⟩
      · go_roundg g'
        case measure => omega
        case rel => exact ⟨rfl, x <<< 1, Mx.sh y, z, by omega, val_int (twice x), rfl, rfl, Lib.hid ((times_skip g' x y z (top_of_false x (by assumption))).trans hz.out), Lib.hid (by rw [hx.out, shl_next, show 32 - (g' + 1) + 1 = 32 - g' by omega])⟩

/-! ### Sums joined -/
def joined (a b : BitVec 32) (many : Int) : BitVec 32 := if many < 1 then a else Mx.shN (8 * many.toNat) a ^^^ b
theorem joined_none (a b : BitVec 32) (many : Int) (h : many < 1) : joined a b many = a := by unfold joined; rw [if_pos h]
theorem joined_some (a b : BitVec 32) (many : Int) (h : ¬ many < 1) : joined a b many = Mx.shN (8 * many.toNat) a ^^^ b := by unfold joined; rw [if_neg h]
theorem i64_odd (m : Nat) (hm : m < 9223372036854775808) : bits .and .i64 (m : Int) 1 = ((m % 2 : Nat) : Int) := by
  show IntKind.i64.wrap ((BitVec.ofInt 64 (m : Int) &&& BitVec.ofInt 64 1).toNat : Int) = _
  rw [BitVec.toNat_and, ofInt_u64 m (by omega), show (BitVec.ofInt 64 1).toNat = 1 by decide, Nat.and_one_is_mod]
  simp [IntKind.wrap, IntKind.bits, IntKind.signed]; omega
theorem pow_split (i m : Nat) : 8 * 2 ^ i * m = 8 * 2 ^ (i + 1) * (m / 2) + 8 * 2 ^ i * (m % 2) := by
  rw [Nat.pow_succ, show 8 * (2 ^ i * 2) * (m / 2) = 8 * 2 ^ i * (2 * (m / 2)) by rw [← Nat.mul_assoc 8, Nat.mul_assoc (8 * 2 ^ i)], ← Nat.mul_add, Nat.div_add_mod]
theorem join_odd (i m : Nat) (x q : BitVec 32) (h : m % 2 = 1) (hq : q = Mx.shN (8 * 2 ^ i) Mx.one) : Mx.shN (8 * 2 ^ (i + 1) * (m / 2)) (Mx.mul x q) = Mx.shN (8 * 2 ^ i * m) x := by
  rw [hq, Mx.mul_pow, ← Mx.shN_add, pow_split i m, h, Nat.mul_one, Nat.add_comm]
theorem join_even (i m : Nat) (x : BitVec 32) (h : m % 2 = 0) : Mx.shN (8 * 2 ^ (i + 1) * (m / 2)) x = Mx.shN (8 * 2 ^ i * m) x := by
  rw [pow_split i m, h]; rfl
theorem sq_next (i : Nat) (q : BitVec 32) (hq : q = Mx.shN (8 * 2 ^ i) Mx.one) : Mx.mul q q = Mx.shN (8 * 2 ^ (i + 1)) Mx.one := by
  rw [hq, Mx.pow_pow, Nat.pow_succ]; congr 1; omega
set_option maxRecDepth 100000 in
set_option maxHeartbeats 400000 in
theorem join_any (a b : BitVec 32) (many : Int) (w : World) (hu : many ≤ 9223372036854775807) :
    Calls Tryd.prog 14 #[.int .u32 (a.toNat : Int), .int .u32 (b.toNat : Int), .int .i64 many] w fun e w' => e = .returned (.int .u32 ((joined a b many).toNat : Int)) ∧ w = w' := by
  by_cases h1 : many < 1
  · go_enter Tryd.func14, Tryd.ntmps14
    go_wp2
    go_ret
    exact ⟨ret_int (by rw [joined_none _ _ _ h1]), rfl⟩
  · obtain ⟨m, rfl⟩ := Int.eq_ofNat_of_zero_le (show 0 ≤ many by omega)
    go_enter Tryd.func14, Tryd.ntmps14
    go_wp2
    go_loopg [0, 2, 7] m (fun g x n q wx => w = wx ∧ ∃ (c r : BitVec 32) (i : Nat), g ≤ m ∧ x = .int .u32 (c.toNat : Int) ∧ n = .int .i64 (g : Int) ∧ q = .int .u32 (r.toNat : Int) ∧ Hid (r = Mx.shN (8 * 2 ^ i) Mx.one) ∧ Hid (Mx.shN (8 * 2 ^ i * g) c = Mx.shN (8 * m) a))
    case atStart => exact ⟨rfl, a, 8388608#32, 0, by omega, rfl, rfl, rfl, Lib.hid Mx.octet_pow, Lib.hid (by simp)⟩
    case round =>
      obtain ⟨rfl, c, r, i, hg, rfl, rfl, rfl, hr, hc⟩ := hrel
      by_cases h0 : gk = 0
      · subst h0
        go_wp2_with fail
        go_ret
        exact ⟨ret_int (by
          have h2 := hc.out
          rw [Nat.mul_zero] at h2
          rw [joined_some _ _ _ (by omega), Int.toNat_natCast, ← h2, xor_val]; rfl), rfl⟩
      · have hpos : (0 : Int) < gk := by omega
        clear h0
        by_cases hodd : gk % 2 = 1
        · have ho : (bits .and .i64 (gk : Int) 1 == 1) = true := by rw [i64_odd gk (by omega), hodd]; rfl
          have Ho := Lib.hid hodd; clear hodd
          go_wp2_with fail
          refine (times_any c r _).mono ?_
          rintro e w' ⟨rfl, rfl⟩
          go_wp2_with fail
          refine (times_any r r _).mono ?_
          rintro e w' ⟨rfl, rfl⟩
          go_wp2_with fail
          go_roundg (gk / 2)
          case measure => omega
          case rel => exact ⟨rfl, Mx.mul c r, Mx.mul r r, i + 1, by omega, rfl, val_int (by omega), rfl, Lib.hid (sq_next i r hr.out), Lib.hid ((join_odd i gk c r Ho.out hr.out).trans hc.out)⟩
        · have hev : gk % 2 = 0 := by omega
          have ho : (bits .and .i64 (gk : Int) 1 == 1) = false := by rw [i64_odd gk (by omega), hev]; rfl
          have Ho := Lib.hid hev; clear hev hodd
          go_wp2_with fail
          refine (times_any r r _).mono ?_
          rintro e w' ⟨rfl, rfl⟩
          go_wp2_with fail
          go_roundg (gk / 2)
          case measure => omega
          case rel => exact ⟨rfl, c, Mx.mul r r, i + 1, by omega, rfl, val_int (by omega), rfl, Lib.hid (sq_next i r hr.out), Lib.hid ((join_even i gk c Ho.out).trans hc.out)⟩

/-- The page's own: shift by shift. -/
theorem shN_round (k : Nat) (x : BitVec 32) : Mx.shN (8 * (k + 1)) x = Mx.shN 8 (Mx.shN (8 * k) x) := by rw [← Mx.shN_add]; rfl
set_option maxRecDepth 100000 in
set_option maxHeartbeats 400000 in
theorem rjoin_any (a b : BitVec 32) (many : Int) (w : World) (hu : many ≤ 9223372036854775807) :
    Calls Tryd.prog 15 #[.int .u32 (a.toNat : Int), .int .u32 (b.toNat : Int), .int .i64 many] w fun e w' => e = .returned (.int .u32 ((joined a b many).toNat : Int)) ∧ w = w' := by
  by_cases h1 : many < 1
  · go_enter Tryd.func15, Tryd.ntmps15
    go_wp2
    go_ret
    exact ⟨ret_int (by rw [joined_none _ _ _ h1]), rfl⟩
  · obtain ⟨m, rfl⟩ := Int.eq_ofNat_of_zero_le (show 0 ≤ many by omega)
    go_enter Tryd.func15, Tryd.ntmps15
    go_wp2
    go_loop [7, 8, 9] (fun x n _ => ∃ k : Nat, k ≤ m ∧ n = .int .i64 (k : Int) ∧ x = .int .u32 ((Mx.shN (8 * k) a).toNat : Int)) (fun _ n _ => m - (intOf n).toNat)
    case atStart => exact ⟨0, by omega, rfl, rfl⟩
    case round =>
      obtain ⟨k, hk, rfl, rfl⟩ := hrel
      by_cases hlt : k < m
      · go_wp2_with fail
        go_loop [7, 9] (fun x n => ∃ j : Nat, j ≤ 8 ∧ n = .int .i64 (j : Int) ∧ x = .int .u32 ((Mx.shN j (Mx.shN (8 * k) a)).toNat : Int)) (fun _ n => 8 - (intOf n).toNat)
        case atStart => exact ⟨0, by omega, rfl, rfl⟩
        case round =>
          obtain ⟨j, hj, rfl, rfl⟩ := hrel
          by_cases hj8 : j < 8
          · go_wp2_with fail
            refine (rshift_any _ _).mono ?_
            rintro e w' ⟨rfl, rfl⟩
            go_wp2_with fail
            go_round
            case rel => exact ⟨j + 1, by omega, by go_num, by rw [Mx.shN_succ]⟩
            case measure => simp [intOf]; omega
          · obtain rfl : j = 8 := by omega
            go_wp2_with fail
            go_round
            case rel => exact ⟨k + 1, by omega, by go_num, by rw [shN_round]⟩
            case measure => simp [intOf]; omega
      · obtain rfl : k = m := by omega
        go_wp2_with fail
        go_ret
        exact ⟨ret_int (by rw [joined_some _ _ _ (by omega), Int.toNat_natCast, xor_val]), rfl⟩
end Go.Proofs.YtdmomeeilibnmaaDoor
