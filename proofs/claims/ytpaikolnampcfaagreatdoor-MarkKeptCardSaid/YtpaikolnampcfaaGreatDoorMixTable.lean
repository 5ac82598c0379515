/- The table in memory; one byte, one word, one part taken into a sum, by the table. -/
import Derived.Test.YtpaikolnampcfaaGreatDoorMarkV
import Derived.Test.YtpaikolnampcfaaGreatDoorMixShift
import Derived.Deep.QuietTactic
import Derived.BigQuiet
namespace Go.Proofs.YtpaikolnampcfaaGreatDoor
open Go.RowKit
theorem xor_half (x y : BitVec 32) : bits .xor .u32 ((x.toNat : Int) / 256) (y.toNat : Int) = ((x >>> 8 ^^^ y).toNat : Int) := by
  have h : (x.toNat : Int) / (256 : Int) = ((x >>> 8).toNat : Int) := by rw [BitVec.toNat_ushiftRight, Nat.shiftRight_eq_div_pow]; rfl
  rw [h, xor_val]
set_option maxRecDepth 100000 in
set_option maxHeartbeats 400000 in
theorem addByte_walk (c : BitVec 32) (z : Int) (tb : Nat) (w : World) (h0 : 0 ≤ z) (h1 : z < 256) (l t1 t2 : BitVec 32) (i j : Nat) (hi : i < 16) (hj : j < 16)
  (e1 : bits .xor .u32 (bits .and .u32 (c.toNat : Int) 255) z = (l.toNat : Int)) (e2 : bits .and .u32 (l.toNat : Int) 15 = (i : Int)) (e3 : (l.toNat : Int) / 16 = (j : Int))
  (c1 : w.cell? ⟨tb, 96 + i, none⟩ = some (.int .u32 (t1.toNat : Int))) (c2 : w.cell? ⟨tb, 112 + j, none⟩ = some (.int .u32 (t2.toNat : Int))) :
    Calls Tryz.prog 173 #[.pointer (some ⟨tb, 0, none⟩), .int .u32 (c.toNat : Int), .int .u8 z] w fun e w' => e = .returned (.int .u32 ((c >>> 8 ^^^ t1 ^^^ t2).toNat : Int)) ∧ ∃ n, w' = w.drewN n := by
  go_enter Tryz.func173, Tryz.ntmps173
  go_wp2_with fail
  go_quiet (fail)
  go_wp2_with fail
  go_ret
  exact ⟨ret_int (by rw [xor_half, xor_val]), _, rfl⟩
set_option maxRecDepth 100000 in
set_option maxHeartbeats 8000000 in
theorem addWord_walk (c x : BitVec 32) (z0 z1 z2 z3 : Int) (tb pb off n cap : Nat) (w : World) (h0 : 0 ≤ z0) (g0 : z0 < 256) (h1 : 0 ≤ z1) (g1 : z1 < 256) (h2 : 0 ≤ z2) (g2 : z2 < 256) (h3 : 0 ≤ z3) (g3 : z3 < 256) (hn : 4 ≤ n)
  (t0 t1 t2 t3 t4 t5 t6 t7 : BitVec 32) (i0 i1 i2 i3 i4 i5 i6 i7 : Nat) (l0 : i0 < 16) (l1 : i1 < 16) (l2 : i2 < 16) (l3 : i3 < 16) (l4 : i4 < 16) (l5 : i5 < 16) (l6 : i6 < 16) (l7 : i7 < 16)
  (e : bits .xor .u32 (c.toNat : Int) (bits .or .u32 (bits .or .u32 (bits .or .u32 z0 (z1 * 256)) (z2 * 65536)) (z3 * 16777216)) = (x.toNat : Int))
  (e0 : bits .and .u32 (x.toNat : Int) 15 = (i0 : Int)) (e1 : bits .and .u32 ((x.toNat : Int) / 16) 15 = (i1 : Int)) (e2 : bits .and .u32 ((x.toNat : Int) / 256) 15 = (i2 : Int))
  (e3 : bits .and .u32 ((x.toNat : Int) / 4096) 15 = (i3 : Int)) (e4 : bits .and .u32 ((x.toNat : Int) / 65536) 15 = (i4 : Int)) (e5 : bits .and .u32 ((x.toNat : Int) / 1048576) 15 = (i5 : Int))
  (e6 : bits .and .u32 ((x.toNat : Int) / 16777216) 15 = (i6 : Int)) (e7 : (x.toNat : Int) / 268435456 = (i7 : Int))
  (b0 : w.cell? ⟨pb, off, none⟩ = some (.int .u8 z0)) (b1 : w.cell? ⟨pb, off + 1, none⟩ = some (.int .u8 z1)) (b2 : w.cell? ⟨pb, off + 2, none⟩ = some (.int .u8 z2)) (b3 : w.cell? ⟨pb, off + 3, none⟩ = some (.int .u8 z3))
  (c0 : w.cell? ⟨tb, i0, none⟩ = some (.int .u32 (t0.toNat : Int))) (c1 : w.cell? ⟨tb, 16 + i1, none⟩ = some (.int .u32 (t1.toNat : Int))) (c2 : w.cell? ⟨tb, 32 + i2, none⟩ = some (.int .u32 (t2.toNat : Int))) (c3 : w.cell? ⟨tb, 48 + i3, none⟩ = some (.int .u32 (t3.toNat : Int)))
  (c4 : w.cell? ⟨tb, 64 + i4, none⟩ = some (.int .u32 (t4.toNat : Int))) (c5 : w.cell? ⟨tb, 80 + i5, none⟩ = some (.int .u32 (t5.toNat : Int))) (c6 : w.cell? ⟨tb, 96 + i6, none⟩ = some (.int .u32 (t6.toNat : Int))) (c7 : w.cell? ⟨tb, 112 + i7, none⟩ = some (.int .u32 (t7.toNat : Int))) :
    Calls Tryz.prog 172 #[.pointer (some ⟨tb, 0, none⟩), .int .u32 (c.toNat : Int), .slice (some ⟨pb, off, none⟩) n cap] w fun e w' => e = .returned (.int .u32 ((t0 ^^^ t1 ^^^ t2 ^^^ t3 ^^^ t4 ^^^ t5 ^^^ t6 ^^^ t7).toNat : Int)) ∧ ∃ n, w' = w.drewN n := by
  have hn' : ¬ n < 4 := by omega
  go_enter Tryz.func172, Tryz.ntmps172
  go_wp2_with fail
  go_quiet (fail)
  go_wp2_with fail
  refine wp_region_quiet_lit (by kernel_rfl) (by kernel_rfl) ?_
  simp only [List.append_eq, List.cons_append, List.nil_append]
  repeat (go_big_quiet_step (fail))
  refine wpQuiet_nil ?_
  intro _ hw'
  obtain ⟨nq2, hw''⟩ := hw'
  subst hw''
  go_wp2_with fail
  go_ret
  exact ⟨ret_int (by simp only [xor_val]), _, World.drewN_drewN _ _ _⟩

/-- Block tb holds the table. -/
def TabAt (w : World) (tb : Nat) : Prop := ∀ r n, r < 8 → n < 16 → w.cell? ⟨tb, 16 * r + n, none⟩ = some (.int .u32 ((Mx.tab r n).toNat : Int))
theorem TabAt.drewN {w : World} {tb : Nat} (h : TabAt w tb) (n : Nat) : TabAt (w.drewN n) tb := h
theorem nat_and15 (n : Nat) (h : n < 4294967296) : bits .and .u32 (n : Int) 15 = ((n % 16 : Nat) : Int) := by
  have := u32_and_nat n 15 h (by decide)
  rw [nat_mask4] at this
  exact this
theorem and15 (x : BitVec 32) (d : Nat) : bits .and .u32 ((x.toNat : Int) / (d : Int)) 15 = ((x.toNat / d % 16 : Nat) : Int) := by
  rw [← Int.natCast_ediv, nat_and15 _ (Nat.lt_of_le_of_lt (Nat.div_le_self _ _) x.isLt)]
theorem low8 (c : BitVec 32) (z : Int) (h0 : 0 ≤ z) (h1 : z < 256) : bits .xor .u32 (bits .and .u32 (c.toNat : Int) 255) z = ((Mx.byte (c ^^^ BitVec.ofInt 32 z)).toNat : Int) := by
  rw [bits_and, bits_xor, u32_toInt, u32_toInt, Mx.byte_xor, Mx.byte_of z h0 h1]; rfl
theorem byte_lt (y : BitVec 32) : (Mx.byte y).toNat < 256 := by
  unfold Mx.byte; rw [BitVec.toNat_and, show (255#32 : BitVec 32).toNat = 255 by decide, nat_mask8]; omega
theorem addByte_any (c : BitVec 32) (z : Int) (tb : Nat) (w : World) (h0 : 0 ≤ z) (h1 : z < 256) (ht : TabAt w tb) :
    Calls Tryz.prog 173 #[.pointer (some ⟨tb, 0, none⟩), .int .u32 (c.toNat : Int), .int .u8 z] w fun e w' => e = .returned (.int .u32 ((Mx.shN 8 (c ^^^ BitVec.ofInt 32 z)).toNat : Int)) ∧ ∃ n, w' = w.drewN n := by
  have hl := byte_lt (c ^^^ BitVec.ofInt 32 z)
  have e := Mx.byte_tab c z h0 h1
  have t0 := Mx.tab_nib 0 (Mx.byte (c ^^^ BitVec.ofInt 32 z))
  have t1 := Mx.tab_nib 1 (Mx.byte (c ^^^ BitVec.ofInt 32 z))
  have h := addByte_walk c z tb w h0 h1 (Mx.byte (c ^^^ BitVec.ofInt 32 z)) (Mx.tab 6 ((Mx.byte (c ^^^ BitVec.ofInt 32 z)).toNat % 16)) (Mx.tab 7 ((Mx.byte (c ^^^ BitVec.ofInt 32 z)).toNat / 16))
    ((Mx.byte (c ^^^ BitVec.ofInt 32 z)).toNat % 16) ((Mx.byte (c ^^^ BitVec.ofInt 32 z)).toNat / 16) (by omega) (by omega) (low8 c z h0 h1) (nat_and15 _ (by omega)) (Int.natCast_ediv _ 16).symm
    (ht 6 _ (by omega) (by omega)) (ht 7 _ (by omega) (by omega))
  have e6 : Mx.tab 6 ((Mx.byte (c ^^^ BitVec.ofInt 32 z)).toNat % 16) = Mx.shN 32 (Mx.nib 0 (Mx.byte (c ^^^ BitVec.ofInt 32 z)) <<< 24) := by
    have := Mx.nib_nat 0 (Mx.byte (c ^^^ BitVec.ofInt 32 z))
    simp only [Nat.mul_zero, Nat.pow_zero, Nat.div_one] at this
    unfold Mx.tab; rw [this]
  have e7 : Mx.tab 7 ((Mx.byte (c ^^^ BitVec.ofInt 32 z)).toNat / 16) = Mx.shN 32 (Mx.nib 1 (Mx.byte (c ^^^ BitVec.ofInt 32 z)) <<< 28) := by
    have := Mx.nib_nat 1 (Mx.byte (c ^^^ BitVec.ofInt 32 z))
    simp only [Nat.mul_one, Nat.reducePow] at this
    rw [Nat.mod_eq_of_lt (by omega)] at this
    unfold Mx.tab; rw [this]
  rw [e6, e7, e] at h
  exact h

theorem scale (n k : Nat) : BitVec.ofInt 32 ((n : Int) * ((2 ^ k : Nat) : Int)) = BitVec.ofNat 32 (n * 2 ^ k) := by rw [← Int.natCast_mul, BitVec.ofInt_natCast]
theorem word_val (c : BitVec 32) (z0 z1 z2 z3 : Int) (g0 : 0 ≤ z0 ∧ z0 < 256) (g1 : 0 ≤ z1 ∧ z1 < 256) (g2 : 0 ≤ z2 ∧ z2 < 256) (g3 : 0 ≤ z3 ∧ z3 < 256) :
    bits .xor .u32 (c.toNat : Int) (bits .or .u32 (bits .or .u32 (bits .or .u32 z0 (z1 * 256)) (z2 * 65536)) (z3 * 16777216)) = ((c ^^^ Mx.word z0 z1 z2 z3).toNat : Int) := by
  obtain ⟨n0, rfl⟩ := Int.eq_ofNat_of_zero_le g0.1
  obtain ⟨n1, rfl⟩ := Int.eq_ofNat_of_zero_le g1.1
  obtain ⟨n2, rfl⟩ := Int.eq_ofNat_of_zero_le g2.1
  obtain ⟨n3, rfl⟩ := Int.eq_ofNat_of_zero_le g3.1
  have hw := Mx.word_or n0 n1 n2 n3 (by omega) (by omega) (by omega)
  have s1 := scale n1 8
  have s2 := scale n2 16
  have s3 := scale n3 24
  rw [bits_or, bits_or, bits_or, bits_xor, u32_toInt, u32_toInt, u32_toInt, u32_toInt]
  rw [show ((n1 : Int) * 256) = (n1 : Int) * ((2 ^ 8 : Nat) : Int) by rfl, show ((n2 : Int) * 65536) = (n2 : Int) * ((2 ^ 16 : Nat) : Int) by rfl, show ((n3 : Int) * 16777216) = (n3 : Int) * ((2 ^ 24 : Nat) : Int) by rfl]
  rw [s1, s2, s3, BitVec.ofInt_natCast, hw]
  unfold Mx.word
  simp only [BitVec.ofInt_natCast]
theorem addWord_any (c : BitVec 32) (z0 z1 z2 z3 : Int) (tb pb off n cap : Nat) (w : World) (g0 : 0 ≤ z0 ∧ z0 < 256) (g1 : 0 ≤ z1 ∧ z1 < 256) (g2 : 0 ≤ z2 ∧ z2 < 256) (g3 : 0 ≤ z3 ∧ z3 < 256) (hn : 4 ≤ n)
  (b0 : w.cell? ⟨pb, off, none⟩ = some (.int .u8 z0)) (b1 : w.cell? ⟨pb, off + 1, none⟩ = some (.int .u8 z1)) (b2 : w.cell? ⟨pb, off + 2, none⟩ = some (.int .u8 z2)) (b3 : w.cell? ⟨pb, off + 3, none⟩ = some (.int .u8 z3)) (ht : TabAt w tb) :
    Calls Tryz.prog 172 #[.pointer (some ⟨tb, 0, none⟩), .int .u32 (c.toNat : Int), .slice (some ⟨pb, off, none⟩) n cap] w fun e w' => e = .returned (.int .u32 ((Mx.crc c [z0, z1, z2, z3]).toNat : Int)) ∧ ∃ n, w' = w.drewN n := by
  have hw := Mx.word_tab (c ^^^ Mx.word z0 z1 z2 z3)
  have hc := Mx.crc_word c z0 z1 z2 z3 g1 g2 g3
  have he := word_val c z0 z1 z2 z3 g0 g1 g2 g3
  generalize hx : c ^^^ Mx.word z0 z1 z2 z3 = x at hw hc he
  have hl := x.isLt
  have i7 : (x.toNat : Int) / 268435456 = ((x.toNat / 268435456 % 16 : Nat) : Int) := by omega
  have h := addWord_walk c x z0 z1 z2 z3 tb pb off n cap w g0.1 g0.2 g1.1 g1.2 g2.1 g2.2 g3.1 g3.2 hn
    (Mx.tab 0 (x.toNat % 16)) (Mx.tab 1 (x.toNat / 16 % 16)) (Mx.tab 2 (x.toNat / 256 % 16)) (Mx.tab 3 (x.toNat / 4096 % 16)) (Mx.tab 4 (x.toNat / 65536 % 16)) (Mx.tab 5 (x.toNat / 1048576 % 16)) (Mx.tab 6 (x.toNat / 16777216 % 16)) (Mx.tab 7 (x.toNat / 268435456 % 16))
    (x.toNat % 16) (x.toNat / 16 % 16) (x.toNat / 256 % 16) (x.toNat / 4096 % 16) (x.toNat / 65536 % 16) (x.toNat / 1048576 % 16) (x.toNat / 16777216 % 16) (x.toNat / 268435456 % 16)
    (by omega) (by omega) (by omega) (by omega) (by omega) (by omega) (by omega) (by omega) he
    (nat_and15 _ hl) (and15 x 16) (and15 x 256) (and15 x 4096) (and15 x 65536) (and15 x 1048576) (and15 x 16777216) i7 b0 b1 b2 b3
    (by have := ht 0 (x.toNat % 16) (by omega) (by omega); rwa [Nat.mul_zero, Nat.zero_add] at this) (ht 1 _ (by omega) (by omega)) (ht 2 _ (by omega) (by omega)) (ht 3 _ (by omega) (by omega)) (ht 4 _ (by omega) (by omega)) (ht 5 _ (by omega) (by omega)) (ht 6 _ (by omega) (by omega)) (ht 7 _ (by omega) (by omega))
  rw [hw, ← hc] at h
  exact h
end Go.Proofs.YtpaikolnampcfaaGreatDoor
