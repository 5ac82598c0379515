/- Walks over mix's and the page's arithmetic: one shift; facts on numbers of 32 bits. -/
import Derived.Test.YtpaikolnampcfaaGreatDoorKitInts
import Derived.Test.YtpaikolnampcfaaGreatDoorMarkV
import Derived.WalkKit
import Derived.WalkLawsBesides
import Derived.WalkSpells
import Derived.Laws.BitsAllLaws
import Derived.LoopTactic
import Derived.Lib.Hide
import Derived.Deep.LoopGhost
import Derived.Outline
namespace Go.Proofs.YtpaikolnampcfaaGreatDoor
open Go.RowKit
theorem u32_toInt (x : BitVec 32) : BitVec.ofInt 32 (x.toNat : Int) = x := by
  rw [BitVec.ofInt_natCast, BitVec.ofNat_toNat]; simp
theorem u32_bd (x : BitVec 32) : (x.toNat : Int) < 4294967296 := by have := x.isLt; omega
theorem wrap_u32_id (x : BitVec 32) : IntKind.u32.wrap (x.toNat : Int) = x.toNat := by
  rw [IntKind.wrap_u32']; have := x.isLt; omega
theorem bits_xor (x y : Int) : bits .xor .u32 x y = ((BitVec.ofInt 32 x ^^^ BitVec.ofInt 32 y).toNat : Int) := wrap_u32_id _
theorem bits_and (x y : Int) : bits .and .u32 x y = ((BitVec.ofInt 32 x &&& BitVec.ofInt 32 y).toNat : Int) := wrap_u32_id _
theorem bits_or (x y : Int) : bits .or .u32 x y = ((BitVec.ofInt 32 x ||| BitVec.ofInt 32 y).toNat : Int) := wrap_u32_id _
theorem half (x : BitVec 32) : (x.toNat : Int) / (2 : Int) = ((x >>> 1).toNat : Int) := by
  rw [BitVec.toNat_ushiftRight, Nat.shiftRight_eq_div_pow]; rfl
theorem lsb_mod (x : BitVec 32) : x.getLsbD 0 = ((x.toNat : Int) % 2 == 1) := by
  rw [← BitVec.testBit_toNat, Nat.testBit_zero, Bool.eq_iff_iff]; simp; omega
theorem lsb_and (x : BitVec 32) : x.getLsbD 0 = (bits .and .u32 (x.toNat : Int) 1 == 1) := by
  rw [lsb_mod, bits_and, u32_toInt, BitVec.toNat_and, show (BitVec.ofInt 32 1).toNat = 1 by decide, Nat.and_one_is_mod]; rfl
theorem sh_one (x : BitVec 32) (h : x.getLsbD 0 = true) : bits .xor .u32 ((x.toNat : Int) / 2) 2197175160 = ((Mx.sh x).toNat : Int) := by
  rw [half, bits_xor, u32_toInt, Mx.sh, if_pos h, show BitVec.ofInt 32 2197175160 = 0x82F63B78#32 by decide]
theorem sh_none (x : BitVec 32) (h : x.getLsbD 0 = false) : (x.toNat : Int) / 2 = ((Mx.sh x).toNat : Int) := by
  rw [half, Mx.sh, h]; rfl

theorem shift_any (x : BitVec 32) (w : World) :
    Calls Tryz.prog 171 #[.int .u32 (x.toNat : Int)] w fun e w' => e = .returned (.int .u32 ((Mx.sh x).toNat : Int)) ∧ w = w' := by
  cases hb : x.getLsbD 0
  · have h := hb
    rw [lsb_and] at h
    have Hb := Lib.hid hb; clear hb
    go_enter Tryz.func171, Tryz.ntmps171
    go_wp2
    go_ret
    exact ⟨ret_int (sh_none x Hb.out), rfl⟩
  · have h := hb
    rw [lsb_and] at h
    have Hb := Lib.hid hb; clear hb
    go_enter Tryz.func171, Tryz.ntmps171
    go_wp2
    go_ret
    exact ⟨ret_int (sh_one x Hb.out), rfl⟩

theorem top_bit (x : BitVec 32) : x.msb = ((x.toNat : Int) / 2147483648 == 1) := by
  rw [BitVec.msb_eq_decide, Bool.eq_iff_iff]; have := x.isLt; simp; omega
theorem twice (x : BitVec 32) : (x.toNat : Int) * 2 % 4294967296 = ((x <<< 1).toNat : Int) := by
  rw [BitVec.toNat_shiftLeft, Nat.shiftLeft_eq]; omega
theorem ne_zero (x : BitVec 32) : ((x.toNat : Int) != 0) = !(x == 0#32) := by
  rw [Bool.eq_iff_iff]; simp [← BitVec.toNat_inj]
theorem times_step (n : Nat) (x y z : BitVec 32) (h : x.msb = true) : (z ^^^ y) ^^^ Mx.mulAux n (x <<< 1) (Mx.sh y) = z ^^^ Mx.mulAux (n + 1) x y := by
  show _ = z ^^^ ((if x.msb then y else 0#32) ^^^ Mx.mulAux n (x <<< 1) (Mx.sh y))
  rw [h, if_pos rfl, BitVec.xor_assoc]
theorem times_skip (n : Nat) (x y z : BitVec 32) (h : x.msb = false) : z ^^^ Mx.mulAux n (x <<< 1) (Mx.sh y) = z ^^^ Mx.mulAux (n + 1) x y := by
  show _ = z ^^^ ((if x.msb then y else 0#32) ^^^ Mx.mulAux n (x <<< 1) (Mx.sh y))
  rw [h]; simp
theorem top_of_true (x : BitVec 32) (h : ((x.toNat : Int) / 2147483648 == 1) = true) : x.msb = true := by rw [top_bit]; exact h
theorem top_of_false (x : BitVec 32) (h : ((x.toNat : Int) / 2147483648 == 1) = false) : x.msb = false := by rw [top_bit]; exact h
theorem xor_val (x y : BitVec 32) : bits .xor .u32 (x.toNat : Int) (y.toNat : Int) = ((x ^^^ y).toNat : Int) := by rw [bits_xor, u32_toInt, u32_toInt]
theorem shl_gone (p : BitVec 32) : p <<< 32 = 0#32 := by
  apply BitVec.eq_of_getLsbD_eq; intro i hi; simp [hi]
theorem shl_next (p : BitVec 32) (k : Nat) : (p <<< k) <<< 1 = p <<< (k + 1) := by rw [← BitVec.shiftLeft_add]
end Go.Proofs.YtpaikolnampcfaaGreatDoor
