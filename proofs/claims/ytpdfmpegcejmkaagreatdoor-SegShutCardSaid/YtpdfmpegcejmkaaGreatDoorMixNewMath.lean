/- The table in memory; one byte, one word, one part taken into a sum, by the table. -/
/- A part taken into a sum: the words of four bytes, and what is left over. -/
/- Plain mathematics of the table's making: which places are filled behind each step. -/
import Derived.Test.YtpdfmpegcejmkaaGreatDoorMarkV
import Derived.Test.YtpdfmpegcejmkaaGreatDoorMixShift
import Derived.Deep.QuietTactic
import Derived.BigQuiet
namespace Go.Proofs.YtpdfmpegcejmkaaGreatDoor
open Go.RowKit
theorem xor_half (x y : BitVec 32) : bits .xor .u32 ((x.toNat : Int) / 256) (y.toNat : Int) = ((x >>> 8 ^^^ y).toNat : Int) := by
  have h : (x.toNat : Int) / (256 : Int) = ((x >>> 8).toNat : Int) := by rw [BitVec.toNat_ushiftRight, Nat.shiftRight_eq_div_pow]; rfl
  rw [h, xor_val]
set_option maxRecDepth 100000 in
set_option maxHeartbeats 400000 in
theorem addByte_walk (c : BitVec 32) (z : Int) (tb : Nat) (w : World) (h0 : 0 ≤ z) (h1 : z < 256) (l t1 t2 : BitVec 32) (i j : Nat) (hi : i < 16) (hj : j < 16)
  (e1 : bits .xor .u32 (bits .and .u32 (c.toNat : Int) 255) z = (l.toNat : Int)) (e2 : bits .and .u32 (l.toNat : Int) 15 = (i : Int)) (e3 : (l.toNat : Int) / 16 = (j : Int))
  (c1 : w.cell? ⟨tb, 96 + i, none⟩ = some (.int .u32 (t1.toNat : Int))) (c2 : w.cell? ⟨tb, 112 + j, none⟩ = some (.int .u32 (t2.toNat : Int))) :
    Calls Tryz.prog 171 #[.pointer (some ⟨tb, 0, none⟩), .int .u32 (c.toNat : Int), .int .u8 z] w fun e w' => e = .returned (.int .u32 ((c >>> 8 ^^^ t1 ^^^ t2).toNat : Int)) ∧ ∃ n, w' = w.drewN n := by
  go_enter Tryz.func171, Tryz.ntmps171
  go_wp2_with fail
  go_quiet (fail)
  go_wp2_with fail
  go_ret
  exact ⟨ret_int (by rw [xor_half, xor_val]), _, rfl⟩
set_option maxRecDepth 100000 in
set_option maxHeartbeats 8000000 in
theorem addWord_walk (c x : BitVec 32) (z0 z1 z2 z3 : Int) (tb pb off n cap : Nat) (w : World) (h0 : 0 ≤ z0) (g0 : z0 < 256) (h1 : 0 ≤ z1) (g1 : z1 < 256) (h2 : 0 ≤ z2) (g2 : z2 < 256) (h3 : 0 ≤ z3) (g3 : z3 < 256) (hn : 4 ≤ n)
  (t0 t1 t2 t3 t4 t5 t6 t7 : BitVec 32) (i0 i1 i2 i3 i4 i5 i6 i7 : Nat) (l0 : i0 < 16) (l1 : i1 < 16) (l2 : i2 < 16) (l3 : i3 < 16) (l4 : i4 < 16) (l5 : i5 < 16) (l6 : i6 < 16) (l7 : i7 < 16)
  (e : bits .xor .u32 (c.toNat : Int) (bits .or .u32 (bits .or .u32 (bits .or .u32 z0 (z1 * 256)) (z2 * 65536)) (z3 * 16777216)) = (x.toNat : Int))
  (e0 : bits .and .u32 (x.toNat : Int) 15 = (i0 : Int)) (e1 : bits .and .u32 ((x.toNat : Int) / 16) 15 = (i1 : Int)) (e2 : bits .and .u32 ((x.toNat : Int) / 256) 15 = (i2 : Int))
  (e3 : bits .and .u32 ((x.toNat : Int) / 4096) 15 = (i3 : Int)) (e4 : bits .and .u32 ((x.toNat : Int) / 65536) 15 = (i4 : Int)) (e5 : bits .and .u32 ((x.toNat : Int) / 1048576) 15 = (i5 : Int))
  (e6 : bits .and .u32 ((x.toNat : Int) / 16777216) 15 = (i6 : Int)) (e7 : (x.toNat : Int) / 268435456 = (i7 : Int))
  (b0 : w.cell? ⟨pb, off, none⟩ = some (.int .u8 z0)) (b1 : w.cell? ⟨pb, off + 1, none⟩ = some (.int .u8 z1)) (b2 : w.cell? ⟨pb, off + 2, none⟩ = some (.int .u8 z2)) (b3 : w.cell? ⟨pb, off + 3, none⟩ = some (.int .u8 z3))
  (c0 : w.cell? ⟨tb, i0, none⟩ = some (.int .u32 (t0.toNat : Int))) (c1 : w.cell? ⟨tb, 16 + i1, none⟩ = some (.int .u32 (t1.toNat : Int))) (c2 : w.cell? ⟨tb, 32 + i2, none⟩ = some (.int .u32 (t2.toNat : Int))) (c3 : w.cell? ⟨tb, 48 + i3, none⟩ = some (.int .u32 (t3.toNat : Int)))
  (c4 : w.cell? ⟨tb, 64 + i4, none⟩ = some (.int .u32 (t4.toNat : Int))) (c5 : w.cell? ⟨tb, 80 + i5, none⟩ = some (.int .u32 (t5.toNat : Int))) (c6 : w.cell? ⟨tb, 96 + i6, none⟩ = some (.int .u32 (t6.toNat : Int))) (c7 : w.cell? ⟨tb, 112 + i7, none⟩ = some (.int .u32 (t7.toNat : Int))) :
    Calls Tryz.prog 170 #[.pointer (some ⟨tb, 0, none⟩), .int .u32 (c.toNat : Int), .slice (some ⟨pb, off, none⟩) n cap] w fun e w' => e = .returned (.int .u32 ((t0 ^^^ t1 ^^^ t2 ^^^ t3 ^^^ t4 ^^^ t5 ^^^ t6 ^^^ t7).toNat : Int)) ∧ ∃ n, w' = w.drewN n := by
  have hn' : ¬ n < 4 := by omega
  go_enter Tryz.func170, Tryz.ntmps170
  go_wp2_with fail
  go_quiet (fail)
  go_wp2_with fail
  refine wp_region_quiet_lit (by kernel_rfl) (by kernel_rfl) ?_
  simp only [List.append_eq, List.cons_append, List.nil_append]
  repeat (go_big_quiet_step (fail))
  refine wpQuiet_nil ?_
  intro _ hw'
  obtain ⟨nq2, hw''⟩ := hw'
  subst hw''
  go_wp2_with fail
  go_ret
  exact ⟨ret_int (by simp only [xor_val]), _, World.drewN_drewN _ _ _⟩

/-- Block tb holds the table. -/
def TabAt (w : World) (tb : Nat) : Prop := ∀ r n, r < 8 → n < 16 → w.cell? ⟨tb, 16 * r + n, none⟩ = some (.int .u32 ((Mx.tab r n).toNat : Int))
theorem TabAt.drewN {w : World} {tb : Nat} (h : TabAt w tb) (n : Nat) : TabAt (w.drewN n) tb := h
theorem nat_and15 (n : Nat) (h : n < 4294967296) : bits .and .u32 (n : Int) 15 = ((n % 16 : Nat) : Int) := by
  have := u32_and_nat n 15 h (by decide)
  rw [nat_mask4] at this
  exact this
theorem and15 (x : BitVec 32) (d : Nat) : bits .and .u32 ((x.toNat : Int) / (d : Int)) 15 = ((x.toNat / d % 16 : Nat) : Int) := by
  rw [← Int.natCast_ediv, nat_and15 _ (Nat.lt_of_le_of_lt (Nat.div_le_self _ _) x.isLt)]
theorem low8 (c : BitVec 32) (z : Int) (h0 : 0 ≤ z) (h1 : z < 256) : bits .xor .u32 (bits .and .u32 (c.toNat : Int) 255) z = ((Mx.byte (c ^^^ BitVec.ofInt 32 z)).toNat : Int) := by
  rw [bits_and, bits_xor, u32_toInt, u32_toInt, Mx.byte_xor, Mx.byte_of z h0 h1]; rfl
theorem byte_lt (y : BitVec 32) : (Mx.byte y).toNat < 256 := by
  unfold Mx.byte; rw [BitVec.toNat_and, show (255#32 : BitVec 32).toNat = 255 by decide, nat_mask8]; omega
theorem addByte_any (c : BitVec 32) (z : Int) (tb : Nat) (w : World) (h0 : 0 ≤ z) (h1 : z < 256) (ht : TabAt w tb) :
    Calls Tryz.prog 171 #[.pointer (some ⟨tb, 0, none⟩), .int .u32 (c.toNat : Int), .int .u8 z] w fun e w' => e = .returned (.int .u32 ((Mx.shN 8 (c ^^^ BitVec.ofInt 32 z)).toNat : Int)) ∧ ∃ n, w' = w.drewN n := by
  have hl := byte_lt (c ^^^ BitVec.ofInt 32 z)
  have e := Mx.byte_tab c z h0 h1
  have t0 := Mx.tab_nib 0 (Mx.byte (c ^^^ BitVec.ofInt 32 z))
  have t1 := Mx.tab_nib 1 (Mx.byte (c ^^^ BitVec.ofInt 32 z))
  have h := addByte_walk c z tb w h0 h1 (Mx.byte (c ^^^ BitVec.ofInt 32 z)) (Mx.tab 6 ((Mx.byte (c ^^^ BitVec.ofInt 32 z)).toNat % 16)) (Mx.tab 7 ((Mx.byte (c ^^^ BitVec.ofInt 32 z)).toNat / 16))
    ((Mx.byte (c ^^^ BitVec.ofInt 32 z)).toNat % 16) ((Mx.byte (c ^^^ BitVec.ofInt 32 z)).toNat / 16) (by omega) (by omega) (low8 c z h0 h1) (nat_and15 _ (by omega)) (Int.natCast_ediv _ 16).symm
    (ht 6 _ (by omega) (by omega)) (ht 7 _ (by omega) (by omega))
  have e6 : Mx.tab 6 ((Mx.byte (c ^^^ BitVec.ofInt 32 z)).toNat % 16) = Mx.shN 32 (Mx.nib 0 (Mx.byte (c ^^^ BitVec.ofInt 32 z)) <<< 24) := by
    have := Mx.nib_nat 0 (Mx.byte (c ^^^ BitVec.ofInt 32 z))
    simp only [Nat.mul_zero, Nat.pow_zero, Nat.div_one] at this
    unfold Mx.tab; rw [this]
  have e7 : Mx.tab 7 ((Mx.byte (c ^^^ BitVec.ofInt 32 z)).toNat / 16) = Mx.shN 32 (Mx.nib 1 (Mx.byte (c ^^^ BitVec.ofInt 32 z)) <<< 28) := by
    have := Mx.nib_nat 1 (Mx.byte (c ^^^ BitVec.ofInt 32 z))
    simp only [Nat.mul_one, Nat.reducePow] at this
    rw [Nat.mod_eq_of_lt (by omega)] at this
    unfold Mx.tab; rw [this]
  rw [e6, e7, e] at h
  exact h

theorem scale (n k : Nat) : BitVec.ofInt 32 ((n : Int) * ((2 ^ k : Nat) : Int)) = BitVec.ofNat 32 (n * 2 ^ k) := by rw [← Int.natCast_mul, BitVec.ofInt_natCast]
theorem word_val (c : BitVec 32) (z0 z1 z2 z3 : Int) (g0 : 0 ≤ z0 ∧ z0 < 256) (g1 : 0 ≤ z1 ∧ z1 < 256) (g2 : 0 ≤ z2 ∧ z2 < 256) (g3 : 0 ≤ z3 ∧ z3 < 256) :
    bits .xor .u32 (c.toNat : Int) (bits .or .u32 (bits .or .u32 (bits .or .u32 z0 (z1 * 256)) (z2 * 65536)) (z3 * 16777216)) = ((c ^^^ Mx.word z0 z1 z2 z3).toNat : Int) := by
  obtain ⟨n0, rfl⟩ := Int.eq_ofNat_of_zero_le g0.1
  obtain ⟨n1, rfl⟩ := Int.eq_ofNat_of_zero_le g1.1
  obtain ⟨n2, rfl⟩ := Int.eq_ofNat_of_zero_le g2.1
  obtain ⟨n3, rfl⟩ := Int.eq_ofNat_of_zero_le g3.1
  have hw := Mx.word_or n0 n1 n2 n3 (by omega) (by omega) (by omega)
  have s1 := scale n1 8
  have s2 := scale n2 16
  have s3 := scale n3 24
  rw [bits_or, bits_or, bits_or, bits_xor, u32_toInt, u32_toInt, u32_toInt, u32_toInt]
  rw [show ((n1 : Int) * 256) = (n1 : Int) * ((2 ^ 8 : Nat) : Int) by rfl, show ((n2 : Int) * 65536) = (n2 : Int) * ((2 ^ 16 : Nat) : Int) by rfl, show ((n3 : Int) * 16777216) = (n3 : Int) * ((2 ^ 24 : Nat) : Int) by rfl]
  rw [s1, s2, s3, BitVec.ofInt_natCast, hw]
  unfold Mx.word
  simp only [BitVec.ofInt_natCast]
theorem addWord_any (c : BitVec 32) (z0 z1 z2 z3 : Int) (tb pb off n cap : Nat) (w : World) (g0 : 0 ≤ z0 ∧ z0 < 256) (g1 : 0 ≤ z1 ∧ z1 < 256) (g2 : 0 ≤ z2 ∧ z2 < 256) (g3 : 0 ≤ z3 ∧ z3 < 256) (hn : 4 ≤ n)
  (b0 : w.cell? ⟨pb, off, none⟩ = some (.int .u8 z0)) (b1 : w.cell? ⟨pb, off + 1, none⟩ = some (.int .u8 z1)) (b2 : w.cell? ⟨pb, off + 2, none⟩ = some (.int .u8 z2)) (b3 : w.cell? ⟨pb, off + 3, none⟩ = some (.int .u8 z3)) (ht : TabAt w tb) :
    Calls Tryz.prog 170 #[.pointer (some ⟨tb, 0, none⟩), .int .u32 (c.toNat : Int), .slice (some ⟨pb, off, none⟩) n cap] w fun e w' => e = .returned (.int .u32 ((Mx.crc c [z0, z1, z2, z3]).toNat : Int)) ∧ ∃ n, w' = w.drewN n := by
  have hw := Mx.word_tab (c ^^^ Mx.word z0 z1 z2 z3)
  have hc := Mx.crc_word c z0 z1 z2 z3 g1 g2 g3
  have he := word_val c z0 z1 z2 z3 g0 g1 g2 g3
  generalize hx : c ^^^ Mx.word z0 z1 z2 z3 = x at hw hc he
  have hl := x.isLt
  have i7 : (x.toNat : Int) / 268435456 = ((x.toNat / 268435456 % 16 : Nat) : Int) := by omega
  have h := addWord_walk c x z0 z1 z2 z3 tb pb off n cap w g0.1 g0.2 g1.1 g1.2 g2.1 g2.2 g3.1 g3.2 hn
    (Mx.tab 0 (x.toNat % 16)) (Mx.tab 1 (x.toNat / 16 % 16)) (Mx.tab 2 (x.toNat / 256 % 16)) (Mx.tab 3 (x.toNat / 4096 % 16)) (Mx.tab 4 (x.toNat / 65536 % 16)) (Mx.tab 5 (x.toNat / 1048576 % 16)) (Mx.tab 6 (x.toNat / 16777216 % 16)) (Mx.tab 7 (x.toNat / 268435456 % 16))
    (x.toNat % 16) (x.toNat / 16 % 16) (x.toNat / 256 % 16) (x.toNat / 4096 % 16) (x.toNat / 65536 % 16) (x.toNat / 1048576 % 16) (x.toNat / 16777216 % 16) (x.toNat / 268435456 % 16)
    (by omega) (by omega) (by omega) (by omega) (by omega) (by omega) (by omega) (by omega) he
    (nat_and15 _ hl) (and15 x 16) (and15 x 256) (and15 x 4096) (and15 x 65536) (and15 x 1048576) (and15 x 16777216) i7 b0 b1 b2 b3
    (by have := ht 0 (x.toNat % 16) (by omega) (by omega); rwa [Nat.mul_zero, Nat.zero_add] at this) (ht 1 _ (by omega) (by omega)) (ht 2 _ (by omega) (by omega)) (ht 3 _ (by omega) (by omega)) (ht 4 _ (by omega) (by omega)) (ht 5 _ (by omega) (by omega)) (ht 6 _ (by omega) (by omega)) (ht 7 _ (by omega) (by omega))
  rw [hw, ← hc] at h
  exact h
end Go.Proofs.YtpdfmpegcejmkaaGreatDoor
namespace Go.Proofs.YtpdfmpegcejmkaaGreatDoor
open Go.RowKit
set_option maxRecDepth 100000 in
set_option maxHeartbeats 1000000 in
theorem addPart_any (c : BitVec 32) (zs : List Int) (A : Option Addr) (tb cap : Nat) (w : World) (hz : BytesAt w A zs) (ht : TabAt w tb) (hcap : zs.length ≤ cap) (hm : cap ≤ 9223372036854775807) :
    Calls Tryz.prog 149 #[.pointer (some ⟨tb, 0, none⟩), .int .u32 (c.toNat : Int), .slice A zs.length cap] w fun e w' => e = .returned (.int .u32 ((Mx.crc c zs).toNat : Int)) ∧ ∃ n, w' = w.drewN n := by
  go_enter Tryz.func149, Tryz.ntmps149
  go_wp2_with fail
  go_loopg [1, 2] zs.length (fun g s v wx => (∃ nq, wx = w.drewN nq) ∧ ∃ (d : BitVec 32) (ys : List Int) (B : Option Addr) (k : Nat), g = ys.length ∧ s = .int .u32 (d.toNat : Int) ∧ v = .slice B ys.length k ∧ ys.length ≤ k ∧ k ≤ cap ∧ BytesAt w B ys ∧ Hid (Mx.crc d ys = Mx.crc c zs))
  case atStart => exact ⟨⟨0, rfl⟩, c, zs, A, cap, rfl, rfl, rfl, hcap, Nat.le_refl _, hz, Lib.hid rfl⟩
  case round =>
    obtain ⟨⟨nq, rfl⟩, d, ys, B, k, hg, rfl, rfl, hk, hkc, hb, hd⟩ := hrel
    have Hg := Lib.hid hg; clear hg
    match ys, hb with
    | z0 :: z1 :: z2 :: z3 :: rest, hb =>
      obtain ⟨b, off, rfl⟩ := hb.some_ (by simp)
      have c0 := hb.one 0 (by simp)
      have c1 := hb.one 1 (by simp)
      have c2 := hb.one 2 (by simp)
      have c3 := hb.one 3 (by simp)
      simp only [Nat.add_zero, List.getD_cons_zero, List.getD_cons_succ] at c0 c1 c2 c3
      have g0 := hb.1 z0 (by simp)
      have g1 := hb.1 z1 (by simp)
      have g2 := hb.1 z2 (by simp)
      have g3 := hb.1 z3 (by simp)
      simp only [List.length_cons] at hk ⊢
      by_cases h4 : k = 4
      · subst h4
        obtain rfl : rest = [] := List.eq_nil_of_length_eq_zero (by omega)
        go_wp2_with fail
        refine (addWord_any d z0 z1 z2 z3 tb b off _ _ (w.drewN nq) g0 g1 g2 g3 ?_ c0 c1 c2 c3 (ht.drewN _)).mono ?_
        · exact Nat.le_refl _
        rintro e w' ⟨rfl, n2, rfl⟩
        go_wp2_with fail
        go_roundg 0
        case measure => rw [Hg.out]; simp
        case rel => exact ⟨⟨_, rfl⟩, Mx.crc d [z0, z1, z2, z3], [], some ⟨b, off, none⟩, 0, rfl, rfl, rfl, by simp, by omega, BytesAt.nil _ _, Lib.hid hd.out⟩
      · go_wp2_with fail
        refine (addWord_any d z0 z1 z2 z3 tb b off _ _ (w.drewN nq) g0 g1 g2 g3 ?_ c0 c1 c2 c3 (ht.drewN _)).mono ?_
        · omega
        rintro e w' ⟨rfl, n2, rfl⟩
        go_wp2_with fail
        go_roundg rest.length
        case measure => rw [Hg.out]; simp; omega
        case rel => exact ⟨⟨_, rfl⟩, Mx.crc d [z0, z1, z2, z3], rest, some ⟨b, off + 4, none⟩, k - 4, rfl, rfl, rfl, by omega, by omega, BytesAt.tail4 hb, Lib.hid hd.out⟩
    | [z0, z1, z2], hb =>
      obtain ⟨b, off, rfl⟩ := hb.some_ (by simp)
      have c0 := hb.one 0 (by simp)
      have c1 := hb.one 1 (by simp)
      have c2 := hb.one 2 (by simp)
      simp only [Nat.add_zero, List.getD_cons_zero, List.getD_cons_succ] at c0 c1 c2
      have g0 := hb.1 z0 (by simp)
      have g1 := hb.1 z1 (by simp)
      have g2 := hb.1 z2 (by simp)
      simp only [List.length_cons, List.length_nil] at hk ⊢
      go_wp2_with fail
      refine (addByte_any d z0 tb _ g0.1 g0.2 (ht.drewN _)).mono ?_
      rintro e w' ⟨rfl, n2, rfl⟩
      go_wp2_with fail
      refine (addByte_any _ z1 tb _ g1.1 g1.2 (ht.drewN _)).mono ?_
      rintro e w' ⟨rfl, n3, rfl⟩
      go_wp2_with fail
      refine (addByte_any _ z2 tb _ g2.1 g2.2 (ht.drewN _)).mono ?_
      rintro e w' ⟨rfl, n4, rfl⟩
      go_wp2_with fail
      go_ret
      exact ⟨ret_int (by rw [← hd.out]; rfl), _, rfl⟩
    | [z0, z1], hb =>
      obtain ⟨b, off, rfl⟩ := hb.some_ (by simp)
      have c0 := hb.one 0 (by simp)
      have c1 := hb.one 1 (by simp)
      simp only [Nat.add_zero, List.getD_cons_zero, List.getD_cons_succ] at c0 c1
      have g0 := hb.1 z0 (by simp)
      have g1 := hb.1 z1 (by simp)
      simp only [List.length_cons, List.length_nil] at hk ⊢
      go_wp2_with fail
      refine (addByte_any d z0 tb _ g0.1 g0.2 (ht.drewN _)).mono ?_
      rintro e w' ⟨rfl, n2, rfl⟩
      go_wp2_with fail
      refine (addByte_any _ z1 tb _ g1.1 g1.2 (ht.drewN _)).mono ?_
      rintro e w' ⟨rfl, n3, rfl⟩
      go_wp2_with fail
      go_ret
      exact ⟨ret_int (by rw [← hd.out]; rfl), _, rfl⟩
    | [z0], hb =>
      obtain ⟨b, off, rfl⟩ := hb.some_ (by simp)
      have c0 := hb.one 0 (by simp)
      simp only [Nat.add_zero, List.getD_cons_zero] at c0
      have g0 := hb.1 z0 (by simp)
      simp only [List.length_cons, List.length_nil] at hk ⊢
      go_wp2_with fail
      refine (addByte_any d z0 tb _ g0.1 g0.2 (ht.drewN _)).mono ?_
      rintro e w' ⟨rfl, n2, rfl⟩
      go_wp2_with fail
      go_ret
      exact ⟨ret_int (by rw [← hd.out]; rfl), _, rfl⟩
    | [], hb =>
      simp only [List.length_nil] at hk ⊢
      go_wp2_with fail
      go_ret
      exact ⟨ret_int (by rw [← hd.out]; rfl), _, rfl⟩
end Go.Proofs.YtpdfmpegcejmkaaGreatDoor
namespace Go.Proofs.YtpdfmpegcejmkaaGreatDoor.Mx
def wordAt (i : Nat) : Nat := i % 16 * 2 ^ (4 * (i / 16))
def filled (g i : Nat) : Nat := if wordAt i % 2 ^ g = 0 then wordAt i else 0
def midway (b n i : Nat) : Nat := if i / 16 = b / 4 ∧ i % 16 < n then filled b i else filled (b + 1) i
def wt (b : Nat) : Nat := 2 ^ (b % 4)
theorem step_all : (List.range 32).all (fun b => (List.range 8).all fun k => decide (16 ≤ 2 * wt b * k) || (List.range 128).all fun i =>
    midway b (2 * wt b * (k + 1)) i == (if i = 16 * (b / 4) + (2 * wt b * k + wt b) then midway b (2 * wt b * k) (16 * (b / 4) + 2 * wt b * k) ^^^ 2 ^ b else midway b (2 * wt b * k) i)) = true := by decide +kernel
theorem row_all : (List.range 32).all (fun b => (List.range 128).all fun i => midway b 16 i == filled b i && midway b 0 i == filled (b + 1) i) = true := by decide +kernel
theorem ends_all : (List.range 128).all (fun i => filled 32 i == 0 && filled 0 i == wordAt i) = true := by decide +kernel
theorem shifted_all : (List.range 32).all (fun b => shN (31 - b) 0x82F63B78#32 == shN 32 (BitVec.ofNat 32 (2 ^ b))) = true := by decide +kernel
theorem all_at {p : Nat → Bool} {n : Nat} (h : (List.range n).all p = true) (i : Nat) (hi : i < n) : p i = true := by
  rw [List.all_eq_true] at h; exact h i (List.mem_range.2 hi)
theorem shifted_at (b : Nat) (hb : b < 32) : shN (31 - b) 0x82F63B78#32 = shN 32 (BitVec.ofNat 32 (2 ^ b)) := eq_of_beq (all_at shifted_all b hb)
theorem step_at (b k i : Nat) (hb : b < 32) (hk : 2 * wt b * k < 16) (hi : i < 128) :
    midway b (2 * wt b * (k + 1)) i = (if i = 16 * (b / 4) + (2 * wt b * k + wt b) then midway b (2 * wt b * k) (16 * (b / 4) + 2 * wt b * k) ^^^ 2 ^ b else midway b (2 * wt b * k) i) := by
  have hw : 0 < wt b := Nat.two_pow_pos _
  have hk8 : k < 8 := by
    have := Nat.mul_le_mul_right k (show 2 ≤ 2 * wt b by omega)
    omega
  have h := all_at (all_at step_all b hb) k hk8
  rw [Bool.or_eq_true] at h
  rcases h with h | h
  · have := of_decide_eq_true h; omega
  · exact eq_of_beq (all_at h i hi)
theorem row_end (b i : Nat) (hb : b < 32) (hi : i < 128) : midway b 16 i = filled b i := by
  have h := all_at (all_at row_all b hb) i hi
  rw [Bool.and_eq_true] at h; exact eq_of_beq h.1
theorem row_start (b i : Nat) (hb : b < 32) (hi : i < 128) : midway b 0 i = filled (b + 1) i := by
  have h := all_at (all_at row_all b hb) i hi
  rw [Bool.and_eq_true] at h; exact eq_of_beq h.2
theorem filled_top (i : Nat) (hi : i < 128) : filled 32 i = 0 := by
  have h := all_at ends_all i hi
  rw [Bool.and_eq_true] at h; exact eq_of_beq h.1
theorem filled_done (i : Nat) (hi : i < 128) : filled 0 i = wordAt i := by
  have h := all_at ends_all i hi
  rw [Bool.and_eq_true] at h; exact eq_of_beq h.2
theorem tab_word (r n : Nat) (hn : n < 16) : tab r n = shN 32 (BitVec.ofNat 32 (wordAt (16 * r + n))) := by
  unfold tab wordAt
  rw [show (16 * r + n) % 16 = n by omega, show (16 * r + n) / 16 = r by omega, mul_shift]
theorem ofNat_xor (a b : Nat) : BitVec.ofNat 32 (a ^^^ b) = BitVec.ofNat 32 a ^^^ BitVec.ofNat 32 b := by
  apply BitVec.eq_of_getLsbD_eq
  intro i hi
  rw [BitVec.getLsbD_xor, BitVec.getLsbD_ofNat, BitVec.getLsbD_ofNat, BitVec.getLsbD_ofNat, Nat.testBit_xor]
  simp [hi]
end Go.Proofs.YtpdfmpegcejmkaaGreatDoor.Mx
