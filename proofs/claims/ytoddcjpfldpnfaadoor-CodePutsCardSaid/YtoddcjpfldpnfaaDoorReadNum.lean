/- What a field's bytes tell. -/
import Derived.Test.YtoddcjpfldpnfaaDoorReadBase
namespace Go.Proofs.YtoddcjpfldpnfaaDoor
open Go.RowKit
theorem ofInt64 (a : Nat) (ha : a < 9223372036854775808) : (BitVec.ofInt 64 (a : Int)).toNat = a := by
  rw [BitVec.ofInt_natCast, BitVec.toNat_ofNat]; exact Nat.mod_eq_of_lt (by omega)
/-- Bits that lie apart are added. -/
theorem or_sum (x y : Int) (c m : Nat) (hc : c = 2 ^ m) (hx : 0 ≤ x) (hd : x % (c : Int) = 0) (hy : 0 ≤ y) (hyc : y < (c : Int)) (hs : x + y < 9223372036854775808) : bits .or .i64 x y = x + y := by
  obtain ⟨a, rfl⟩ := Int.eq_ofNat_of_zero_le hx
  obtain ⟨b, rfl⟩ := Int.eq_ofNat_of_zero_le hy
  have hdv : c ∣ a := by
    have : (c : Int) ∣ (a : Int) := Int.dvd_of_emod_eq_zero hd
    exact Int.ofNat_dvd.1 this
  obtain ⟨q, rfl⟩ := hdv
  have hbc : b < 2 ^ m := by omega
  have hor : c * q ||| b = c * q + b := by rw [hc, ← Nat.two_pow_add_eq_or_of_lt hbc]
  show IntKind.i64.wrap ((BitVec.ofInt 64 ((c * q : Nat) : Int) ||| BitVec.ofInt 64 (b : Int)).toNat : Int) = _
  rw [BitVec.toNat_or, ofInt64 _ (by omega), ofInt64 b (by omega), hor]
  exact IntWalk.i64_in _ (by omega)
theorem or_zero (y : Int) (hy : 0 ≤ y) (hs : y < 9223372036854775808) : bits .or .i64 0 y = y := by
  obtain ⟨b, rfl⟩ := Int.eq_ofNat_of_zero_le hy
  show IntKind.i64.wrap ((BitVec.ofInt 64 ((0 : Nat) : Int) ||| BitVec.ofInt 64 (b : Int)).toNat : Int) = _
  rw [BitVec.toNat_or, ofInt64 _ (by omega), ofInt64 b (by omega), Nat.zero_or]
  exact IntWalk.i64_in _ (by omega)
set_option maxRecDepth 100000 in
theorem number_six (w : World) (b o c : Nat) (z0 z1 z2 z3 z4 z5 : Int) (hz : BytesAt w (some ⟨b, o, none⟩) [z0, z1, z2, z3, z4, z5]) :
    Calls Tryd.prog 49 #[.slice (some ⟨b, o, none⟩) 6 c] w fun e w' => e = .returned (.int .i64 (unle [z0, z1, z2, z3, z4, z5])) ∧ ∃ n, w' = w.drewN n := by
  have c0 : w.cell? ⟨b, o, none⟩ = some (.int .u8 z0) := hz.one 0 (by simp)
  have c1 : w.cell? ⟨b, o + 1, none⟩ = some (.int .u8 z1) := hz.one 1 (by simp)
  have c2 : w.cell? ⟨b, o + 2, none⟩ = some (.int .u8 z2) := hz.one 2 (by simp)
  have c3 : w.cell? ⟨b, o + 3, none⟩ = some (.int .u8 z3) := hz.one 3 (by simp)
  have c4 : w.cell? ⟨b, o + 4, none⟩ = some (.int .u8 z4) := hz.one 4 (by simp)
  have c5 : w.cell? ⟨b, o + 5, none⟩ = some (.int .u8 z5) := hz.one 5 (by simp)
  have b0 := hz.1 z0 (by simp)
  have b1 := hz.1 z1 (by simp)
  have b2 := hz.1 z2 (by simp)
  have b3 := hz.1 z3 (by simp)
  have b4 := hz.1 z4 (by simp)
  have b5 := hz.1 z5 (by simp)
  clear hz
  go_enter Tryd.func49, Tryd.ntmps49
  go_wp2_with fail
  go_quiet (fail)
  go_wp2_with fail
  go_quiet (fail)
  go_wp2_with fail
  go_ret
  exact ⟨ret_int (by
    rw [or_sum (z5 * 1099511627776) (z4 * 4294967296) 1099511627776 40 (by decide) (by omega) (by omega) (by omega) (by omega) (by omega), or_zero _ (by omega) (by omega),
      or_sum (z3 * 16777216) (z2 * 65536) 16777216 24 (by decide) (by omega) (by omega) (by omega) (by omega) (by omega),
      or_sum _ (z3 * 16777216 + z2 * 65536) 4294967296 32 (by decide) (by omega) (by omega) (by omega) (by omega) (by omega),
      or_sum _ (z1 * 256) 65536 16 (by decide) (by omega) (by omega) (by omega) (by omega) (by omega),
      or_sum _ z0 256 8 (by decide) (by omega) (by omega) (by omega) (by omega) (by omega)]
    simp only [unle]; omega
    ), _, rfl⟩
set_option maxRecDepth 100000 in
theorem number_four (w : World) (b o c : Nat) (z0 z1 z2 z3 : Int) (hz : BytesAt w (some ⟨b, o, none⟩) [z0, z1, z2, z3]) :
    Calls Tryd.prog 49 #[.slice (some ⟨b, o, none⟩) 4 c] w fun e w' => e = .returned (.int .i64 (unle [z0, z1, z2, z3])) ∧ ∃ n, w' = w.drewN n := by
  have c0 : w.cell? ⟨b, o, none⟩ = some (.int .u8 z0) := hz.one 0 (by simp)
  have c1 : w.cell? ⟨b, o + 1, none⟩ = some (.int .u8 z1) := hz.one 1 (by simp)
  have c2 : w.cell? ⟨b, o + 2, none⟩ = some (.int .u8 z2) := hz.one 2 (by simp)
  have c3 : w.cell? ⟨b, o + 3, none⟩ = some (.int .u8 z3) := hz.one 3 (by simp)
  have b0 := hz.1 z0 (by simp)
  have b1 := hz.1 z1 (by simp)
  have b2 := hz.1 z2 (by simp)
  have b3 := hz.1 z3 (by simp)
  clear hz
  go_enter Tryd.func49, Tryd.ntmps49
  go_wp2_with fail
  go_quiet (fail)
  go_wp2_with fail
  go_ret
  exact ⟨ret_int (by
    rw [or_sum (z3 * 16777216) (z2 * 65536) 16777216 24 (by decide) (by omega) (by omega) (by omega) (by omega) (by omega), or_zero _ (by omega) (by omega),
      or_sum _ (z1 * 256) 65536 16 (by decide) (by omega) (by omega) (by omega) (by omega) (by omega),
      or_sum _ z0 256 8 (by decide) (by omega) (by omega) (by omega) (by omega) (by omega)]
    simp only [unle]; omega
    ), _, rfl⟩
set_option maxRecDepth 100000 in
theorem number_two (w : World) (b o c : Nat) (z0 z1 : Int) (hz : BytesAt w (some ⟨b, o, none⟩) [z0, z1]) :
    Calls Tryd.prog 49 #[.slice (some ⟨b, o, none⟩) 2 c] w fun e w' => e = .returned (.int .i64 (unle [z0, z1])) ∧ ∃ n, w' = w.drewN n := by
  have c0 : w.cell? ⟨b, o, none⟩ = some (.int .u8 z0) := hz.one 0 (by simp)
  have c1 : w.cell? ⟨b, o + 1, none⟩ = some (.int .u8 z1) := hz.one 1 (by simp)
  have b0 := hz.1 z0 (by simp)
  have b1 := hz.1 z1 (by simp)
  clear hz
  go_enter Tryd.func49, Tryd.ntmps49
  go_wp2_with fail
  go_ret
  exact ⟨ret_int (by
    rw [or_zero _ (by omega) (by omega), or_sum _ z0 256 8 (by decide) (by omega) (by omega) (by omega) (by omega) (by omega)]
    simp only [unle]; omega
    ), 0, rfl⟩
set_option maxRecDepth 100000 in
theorem number_one (w : World) (b o c : Nat) (z0 : Int) (hz : BytesAt w (some ⟨b, o, none⟩) [z0]) :
    Calls Tryd.prog 49 #[.slice (some ⟨b, o, none⟩) 1 c] w fun e w' => e = .returned (.int .i64 (unle [z0])) ∧ ∃ n, w' = w.drewN n := by
  have c0 : w.cell? ⟨b, o, none⟩ = some (.int .u8 z0) := hz.one 0 (by simp)
  have b0 := hz.1 z0 (by simp)
  clear hz
  go_enter Tryd.func49, Tryd.ntmps49
  go_wp2_with fail
  go_ret
  exact ⟨ret_int (by
    rw [or_zero _ (by omega) (by omega)]
    simp only [unle]; omega
    ), 0, rfl⟩
/-- In one. -/
theorem number_any (w : World) (A : Option Addr) (c k : Nat) (zs : List Int) (hk : zs.length = k) (ht : 0 ≤ top k) (hz : BytesAt w A zs) :
    Calls Tryd.prog 49 #[.slice A k c] w fun e w' => e = .returned (.int .i64 (unle zs)) ∧ ∃ n, w' = w.drewN n := by
  have hp : 0 < k := by rcases top_cases (k : Int) with ⟨e, _⟩ | ⟨e, _⟩ | ⟨e, _⟩ | ⟨e, _⟩ | ⟨_, _, _, _, t⟩ <;> omega
  obtain ⟨b, o, rfl⟩ := hz.some_ (by intro e; subst e; simp at hk; omega)
  rcases top_cases (k : Int) with ⟨e, t⟩ | ⟨e, t⟩ | ⟨e, t⟩ | ⟨e, t⟩ | ⟨_, _, _, _, t⟩
  · obtain rfl : k = 1 := by omega
    match zs, hk with
    | [z0], _ => exact number_one w b o c z0 hz
  · obtain rfl : k = 2 := by omega
    match zs, hk with
    | [z0, z1], _ => exact number_two w b o c z0 z1 hz
  · obtain rfl : k = 4 := by omega
    match zs, hk with
    | [z0, z1, z2, z3], _ => exact number_four w b o c z0 z1 z2 z3 hz
  · obtain rfl : k = 6 := by omega
    match zs, hk with
    | [z0, z1, z2, z3, z4, z5], _ => exact number_six w b o c z0 z1 z2 z3 z4 z5 hz
  · omega
end Go.Proofs.YtoddcjpfldpnfaaDoor
