/- Plain mathematics of bits turned in a row of bytes: what a turned bit makes of the sum; bits turned within 32 turn it. -/
import Derived.Test.YtdmomeeilibnmaaDoorMixMathB
namespace Go.Proofs.YtdmomeeilibnmaaDoor.Mx
theorem crc_set (zs : List Int) (q : Nat) (z' : Int) (c d : BitVec 32) (hq : q < zs.length) (h : BitVec.ofInt 32 z' = BitVec.ofInt 32 (zs.getD q 0) ^^^ d) :
    crc c (zs.set q z') = crc c zs ^^^ shN (8 * (zs.length - q)) d := by
  have hs : zs = zs.take q ++ zs.getD q 0 :: zs.drop (q + 1) := by
    rw [List.getD_eq_getElem?_getD, List.getElem?_eq_getElem hq, Option.getD_some, ← List.drop_eq_getElem_cons hq, List.take_append_drop]
  have hset : zs.set q z' = zs.take q ++ z' :: zs.drop (q + 1) := by rw [List.set_eq_take_append_cons_drop, if_pos hq]
  rw [hset]
  conv => rhs; rw [hs]
  rw [crc_append, crc_append, crc_cons, crc_cons, h, ← BitVec.xor_assoc, shN_xor, BitVec.xor_comm, crc_ahead, ← shN_add, BitVec.xor_comm]
  congr 2
  simp
  omega
theorem unit_back : (List.range 32).all (fun j => shN j (1#32 <<< j) == 1#32) = true := by decide +kernel
theorem unit_at (j : Nat) (hj : j < 32) : shN j (1#32 <<< j) = 1#32 := by
  have h := unit_back
  rw [List.all_eq_true] at h
  exact eq_of_beq (h j (List.mem_range.2 hj))
theorem unit_shift (m j : Nat) (hj : j < 32) (h : j ≤ m) : shN m (1#32 <<< j) = shN (m - j) 1#32 := by
  have := shN_add j (m - j) (1#32 <<< j)
  rw [show j + (m - j) = m by omega, unit_at j hj] at this
  exact this
/-- Bit k of the run turned at place f + k. -/
theorem turn_step (zs pz : List Int) (f k n : Nat) (z' : Int) (c t : BitVec 32) (hn : zs.length = n) (hk : k < 32) (hf : f + k < 8 * n)
    (h : BitVec.ofInt 32 z' = BitVec.ofInt 32 (zs.getD ((f + k) / 8) 0) ^^^ (if t.getLsbD k then 1#32 <<< ((f + k) % 8) else 0#32))
    (hc : crc c zs = crc c pz ^^^ shN (8 * n - f) (low k t)) :
    crc c (zs.set ((f + k) / 8) z') = crc c pz ^^^ shN (8 * n - f) (low (k + 1) t) := by
  rw [crc_set zs _ z' c _ (by omega) h, hc, low_succ, shN_xor, BitVec.xor_assoc]
  congr 2
  by_cases hb : t.getLsbD k
  · rw [if_pos hb, if_pos hb, unit_shift _ _ (by omega) (by omega), unit_shift _ _ hk (by omega)]
    congr 1
    omega
  · rw [if_neg hb, if_neg hb, shN_zero, shN_zero]
theorem low_none (k : Nat) (t : BitVec 32) (h : low (k + 1) t = 0#32) (hk : k < 32) : t.getLsbD k = false ∧ low k t = 0#32 := by
  have h0 : t.getLsbD k = false := by
    have := congrArg (fun v : BitVec 32 => v.getLsbD k) h
    simp only [low_bit _ _ _ hk, BitVec.getLsbD_zero] at this
    simpa using this
  refine ⟨h0, ?_⟩
  rw [low_succ, h0] at h
  simpa using h
theorem crc_turned (zs pz : List Int) (m k : Nat) (t : BitVec 32) (c : BitVec 32) (hc : crc c zs = crc c pz ^^^ shN m (low k t)) (h : crc c zs = crc c pz) : low k t = 0#32 := by
  rw [h] at hc
  have : shN m (low k t) = 0#32 := by
    have h2 : crc c pz ^^^ crc c pz = crc c pz ^^^ (crc c pz ^^^ shN m (low k t)) := by rw [← hc]
    rw [BitVec.xor_self, ← BitVec.xor_assoc, BitVec.xor_self] at h2
    simpa using h2.symm
  exact shN_eq_zero _ _ this
theorem not_inj (x y : BitVec 32) (h : ~~~ x = ~~~ y) : x = y := by
  rw [not_eq_xor, not_eq_xor] at h
  have : (x ^^^ 0xFFFFFFFF#32) ^^^ 0xFFFFFFFF#32 = (y ^^^ 0xFFFFFFFF#32) ^^^ 0xFFFFFFFF#32 := by rw [h]
  rw [BitVec.xor_assoc, BitVec.xor_assoc, BitVec.xor_self] at this
  simpa using this
theorem sum_turned (zs pz : List Int) (m k : Nat) (t : BitVec 32) (hc : crc 0xFFFFFFFF#32 zs = crc 0xFFFFFFFF#32 pz ^^^ shN m (low k t)) (hz : low k t = 0#32 → zs = pz) : sum zs = sum pz ↔ zs = pz :=
  ⟨fun h => hz (crc_turned zs pz m k t _ hc (not_inj _ _ h)), fun h => by rw [h]⟩
end Go.Proofs.YtdmomeeilibnmaaDoor.Mx
