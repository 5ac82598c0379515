/- Plain mathematics of the table's making: which places are filled behind each step. -/
import Derived.Test.YtdmomeeilibnmaaDoorMixMathB
namespace Go.Proofs.YtdmomeeilibnmaaDoor.Mx
def wordAt (i : Nat) : Nat := i % 16 * 2 ^ (4 * (i / 16))
def filled (g i : Nat) : Nat := if wordAt i % 2 ^ g = 0 then wordAt i else 0
def midway (b n i : Nat) : Nat := if i / 16 = b / 4 ∧ i % 16 < n then filled b i else filled (b + 1) i
def wt (b : Nat) : Nat := 2 ^ (b % 4)
theorem step_all : (List.range 32).all (fun b => (List.range 8).all fun k => decide (16 ≤ 2 * wt b * k) || (List.range 128).all fun i =>
    midway b (2 * wt b * (k + 1)) i == (if i = 16 * (b / 4) + (2 * wt b * k + wt b) then midway b (2 * wt b * k) (16 * (b / 4) + 2 * wt b * k) ^^^ 2 ^ b else midway b (2 * wt b * k) i)) = true := by decide +kernel
theorem row_all : (List.range 32).all (fun b => (List.range 128).all fun i => midway b 16 i == filled b i && midway b 0 i == filled (b + 1) i) = true := by decide +kernel
theorem ends_all : (List.range 128).all (fun i => filled 32 i == 0 && filled 0 i == wordAt i) = true := by decide +kernel
theorem shifted_all : (List.range 32).all (fun b => shN (31 - b) 0x82F63B78#32 == shN 32 (BitVec.ofNat 32 (2 ^ b))) = true := by decide +kernel
theorem all_at {p : Nat → Bool} {n : Nat} (h : (List.range n).all p = true) (i : Nat) (hi : i < n) : p i = true := by
  rw [List.all_eq_true] at h; exact h i (List.mem_range.2 hi)
theorem shifted_at (b : Nat) (hb : b < 32) : shN (31 - b) 0x82F63B78#32 = shN 32 (BitVec.ofNat 32 (2 ^ b)) := eq_of_beq (all_at shifted_all b hb)
theorem step_at (b k i : Nat) (hb : b < 32) (hk : 2 * wt b * k < 16) (hi : i < 128) :
    midway b (2 * wt b * (k + 1)) i = (if i = 16 * (b / 4) + (2 * wt b * k + wt b) then midway b (2 * wt b * k) (16 * (b / 4) + 2 * wt b * k) ^^^ 2 ^ b else midway b (2 * wt b * k) i) := by
  have hw : 0 < wt b := Nat.two_pow_pos _
  have hk8 : k < 8 := by
    have := Nat.mul_le_mul_right k (show 2 ≤ 2 * wt b by omega)
    omega
  have h := all_at (all_at step_all b hb) k hk8
  rw [Bool.or_eq_true] at h
  rcases h with h | h
  · have := of_decide_eq_true h; omega
  · exact eq_of_beq (all_at h i hi)
theorem row_end (b i : Nat) (hb : b < 32) (hi : i < 128) : midway b 16 i = filled b i := by
  have h := all_at (all_at row_all b hb) i hi
  rw [Bool.and_eq_true] at h; exact eq_of_beq h.1
theorem row_start (b i : Nat) (hb : b < 32) (hi : i < 128) : midway b 0 i = filled (b + 1) i := by
  have h := all_at (all_at row_all b hb) i hi
  rw [Bool.and_eq_true] at h; exact eq_of_beq h.2
theorem filled_top (i : Nat) (hi : i < 128) : filled 32 i = 0 := by
  have h := all_at ends_all i hi
  rw [Bool.and_eq_true] at h; exact eq_of_beq h.1
theorem filled_done (i : Nat) (hi : i < 128) : filled 0 i = wordAt i := by
  have h := all_at ends_all i hi
  rw [Bool.and_eq_true] at h; exact eq_of_beq h.2
theorem tab_word (r n : Nat) (hn : n < 16) : tab r n = shN 32 (BitVec.ofNat 32 (wordAt (16 * r + n))) := by
  unfold tab wordAt
  rw [show (16 * r + n) % 16 = n by omega, show (16 * r + n) / 16 = r by omega, mul_shift]
theorem ofNat_xor (a b : Nat) : BitVec.ofNat 32 (a ^^^ b) = BitVec.ofNat 32 a ^^^ BitVec.ofNat 32 b := by
  apply BitVec.eq_of_getLsbD_eq
  intro i hi
  rw [BitVec.getLsbD_xor, BitVec.getLsbD_ofNat, BitVec.getLsbD_ofNat, BitVec.getLsbD_ofNat, Nat.testBit_xor]
  simp [hi]
end Go.Proofs.YtdmomeeilibnmaaDoor.Mx
