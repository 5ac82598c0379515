/- Whether a sum fits: mix's, and the page's own. -/
import Derived.Test.YtdmomeeilibnmaaDoorMixSum
import Derived.Test.YtdmomeeilibnmaaDoorMixIs
import Derived.Deep.RegionWith
namespace Go.Proofs.YtdmomeeilibnmaaDoor
open Go.RowKit
theorem bytesOf_one (A : Option Addr) (zs : List Int) (cap : Nat) : bytesOf [⟨A, zs, cap⟩] = zs := by unfold bytesOf; simp
/-- One part, in a row of its own. -/
theorem partsAt_new {w : World} {A : Option Addr} {zs : List Int} {cap : Nat} (t : TypeId) (hz : BytesAt w A zs) (hcap : zs.length ≤ cap) (hm : cap ≤ 9223372036854775807) :
    PartsAt (w.alloc (.cells #[.slice A zs.length cap] t)) (some ⟨w.heap.size, 0, none⟩) [⟨A, zs, cap⟩] := by
  refine ⟨fun p hp => ?_, fun _ => ⟨w.heap.size, 0, rfl, fun i p hp => ?_⟩⟩
  · obtain rfl : p = ⟨A, zs, cap⟩ := by simpa using hp
    exact ⟨hz.below ((Below.refl _ _).alloc (Nat.le_refl _) _), hcap, hm⟩
  · match i, hp with
    | 0, hp =>
      obtain rfl : (⟨A, zs, cap⟩ : Part) = p := by simpa using hp
      simp [Part.val]
    | i + 1, hp => simp at hp
theorem u32_eq (x y : BitVec 32) : ((x.toNat : Int) != (y.toNat : Int)) = !(x == y) := by
  rw [Bool.eq_iff_iff]; simp [← BitVec.toNat_inj]; omega
set_option maxRecDepth 100000 in
set_option maxHeartbeats 1000000 in
theorem check_same (s : BitVec 32) (zs : List Int) (A : Option Addr) (cap : Nat) (w : World) (hz : BytesAt w A zs) (hcap : zs.length ≤ cap) (hm : cap ≤ 9223372036854775807) (hs : Mx.sum zs = s) :
    Calls Tryd.prog 21 #[.slice A zs.length cap, .int .u32 (s.toNat : Int)] w fun e w' => e = .returned .nilIface ∧ Below w.heap.size w w' := by
  have hp := partsAt_new 24 hz hcap hm
  have hn : (((Mx.sum zs).toNat : Int) != (s.toNat : Int)) = false := by rw [u32_eq, hs]; simp
  clear hs
  go_enter Tryd.func21, Tryd.ntmps21
  go_wp2_with fail
  refine (sum_any _ _ _ _ hp (by simp)).mono ?_
  rw [bytesOf_one]
  rintro e w1 ⟨rfl, hb⟩
  go_wp2_with fail
  go_ret
  exact ⟨rfl, ((Below.refl _ _).alloc (Nat.le_refl _) _).trans (hb.mono (by simp))⟩
set_option maxRecDepth 100000 in
set_option maxHeartbeats 1000000 in
theorem check_other (s : BitVec 32) (zs : List Int) (A : Option Addr) (cap : Nat) (b : Addr) (w : World) (hz : BytesAt w A zs) (hcap : zs.length ≤ cap) (hm : cap ≤ 9223372036854775807) (hs : Mx.sum zs ≠ s)
    (hg : w.cell? ⟨0, 0, none⟩ = some (.iface 73 (.pointer (some b)))) :
    Calls Tryd.prog 21 #[.slice A zs.length cap, .int .u32 (s.toNat : Int)] w fun e w' => e = .returned (.iface 58 (.agg #[.int .u32 ((Mx.sum zs).toNat : Int), .int .u32 (s.toNat : Int), .iface 73 (.pointer (some b))])) ∧ Below w.heap.size w w' := by
  have hp := partsAt_new 24 hz hcap hm
  have hn : (((Mx.sum zs).toNat : Int) != (s.toNat : Int)) = true := by rw [u32_eq]; simp [hs]
  have Hs := Lib.hid hs
  clear hs
  go_enter Tryd.func21, Tryd.ntmps21
  go_wp2_with fail
  refine (sum_any _ _ _ _ hp (by simp)).mono ?_
  rw [bytesOf_one]
  rintro e w1 ⟨rfl, hb⟩
  have hb2 := ((Below.refl w.heap.size w).alloc (Nat.le_refl _) (.cells #[.slice A zs.length cap] 24)).trans (hb.mono (by simp))
  have hg1 := (hb2.cell (p := ⟨0, 0, none⟩) (World.block_lt_of_cell? _ _ hg)).trans hg
  go_wp2_with fail
  go_ret
  exact ⟨rfl, hb2⟩

theorem below_global {w w1 : World} {v : Value} (g : Nat) (hg : w.cell? ⟨g, 0, none⟩ = some v) (hb : Below w.heap.size w w1) : w1.cell? ⟨g, 0, none⟩ = some v :=
  (hb.cell (p := ⟨g, 0, none⟩) (World.block_lt_of_cell? _ _ hg)).trans hg
theorem undrew {B : Nat} {w w1 : World} (h : Below B w.drew w1) : Below B w w1 := ⟨h.os, h.tape, h.output, h.size, h.block⟩
def fitsVal (zs : List Int) (s : BitVec 32) : Int := if Mx.sum zs = s then 0 else 5
set_option maxRecDepth 100000 in
set_option maxHeartbeats 1000000 in
theorem fits_any (s : BitVec 32) (zs : List Int) (A : Option Addr) (cap : Nat) (b : Addr) (w : World) (hz : BytesAt w A zs) (hcap : zs.length ≤ cap) (hm : cap ≤ 9223372036854775807)
    (hg : w.cell? ⟨0, 0, none⟩ = some (.iface 73 (.pointer (some b)))) :
    Calls Tryd.prog 9 #[.slice A zs.length cap, .int .u32 (s.toNat : Int)] w fun e w' => e = .returned (.int .i64 (fitsVal zs s)) ∧ Below w.heap.size w w' := by
  by_cases hs : Mx.sum zs = s
  · have Hv : Hid (fitsVal zs s = 0) := by unfold fitsVal; rw [if_pos hs]; exact rfl
    have Hs := Lib.hid hs
    clear hs
    go_enter Tryd.func9, Tryd.ntmps9
    go_wp2_with fail
    go_region_with (first
      | (go_at_call 21; refine (check_same s zs A cap _ ?_ hcap hm Hs.out).mono ?_; exact hz; rintro e w1 ⟨rfl, hb⟩; have hb1 := undrew hb; have hg1 := below_global _ hg hb1)
      | (go_at_call 20; refine (is_nil b _).mono ?_; rintro e w2 ⟨rfl, rfl⟩))
    all_goals (go_wp2_with fail; go_ret; exact ⟨ret_int Hv.out.symm, by assumption⟩)
  · have Hv : Hid (fitsVal zs s = 5) := by unfold fitsVal; rw [if_neg hs]; exact rfl
    have Hs := Lib.hid hs
    clear hs
    go_enter Tryd.func9, Tryd.ntmps9
    go_wp2_with fail
    go_region_with (first
      | (go_at_call 21; refine (check_other s zs A cap b _ ?_ hcap hm Hs.out ?_).mono ?_; exact hz; exact hg; rintro e w1 ⟨rfl, hb⟩; have hb1 := undrew hb; have hg1 := below_global _ hg hb1)
      | (go_at_call 20; refine (is_misfit _ _ b _).mono ?_; rintro e w2 ⟨rfl, hb3⟩; have hb4 := hb1.trans (hb3.mono hb1.size)))
    all_goals (go_wp2_with fail; go_ret; exact ⟨ret_int Hv.out.symm, by assumption⟩)
/-! ### The page's own -/
theorem byte_shift (c : BitVec 32) (z : Int) (zs : List Int) (k : Nat) (h : zs[k]? = some z) : Mx.crc c (zs.take (k + 1)) = Mx.shN 8 (Mx.crc c (zs.take k) ^^^ BitVec.ofInt 32 z) := by
  rw [List.take_add_one, h]; exact Mx.crc_snoc _ _ _
theorem xor_byte (x : BitVec 32) (z : Int) : bits .xor .u32 (x.toNat : Int) z = ((x ^^^ BitVec.ofInt 32 z).toNat : Int) := by rw [bits_xor, u32_toInt]
theorem minus_val (x : BitVec 32) : (4294967295 : Int) - x.toNat = ((~~~ x).toNat : Int) := by
  rw [BitVec.toNat_not]; have := x.isLt; omega
set_option maxRecDepth 100000 in
set_option maxHeartbeats 1000000 in
theorem rsum_any (ps : List Part) (A : Option Addr) (cap : Nat) (w : World) (hp : PartsAt w A ps) (hn : ps.length ≤ 9223372036854775807) :
    Calls Tryd.prog 13 #[.slice A ps.length cap] w fun e w' => e = .returned (.int .u32 ((Mx.sum (bytesOf ps)).toNat : Int)) ∧ w = w' := by
  go_enter Tryd.func13, Tryd.ntmps13
  go_wp2_with fail
  go_loop [3, 4, 5, 6] (fun s i _ _ => ∃ k : Nat, k ≤ ps.length ∧ i = .int .i64 (k : Int) ∧ s = .int .u32 ((Mx.crc 0xFFFFFFFF#32 (bytesOf (ps.take k))).toNat : Int)) (fun _ i _ _ => ps.length - (intOf i).toNat)
  case atStart => exact ⟨0, by omega, rfl, rfl⟩
  case round =>
    obtain ⟨k, hk, rfl, rfl⟩ := hrel
    by_cases hlt : k < ps.length
    · have hq : ps[k]? = some ps[k] := List.getElem?_eq_getElem hlt
      generalize hpk : ps[k] = p at hq
      have hm : p ∈ ps := by rw [← hpk]; exact List.getElem_mem hlt
      obtain ⟨b, off, rfl, hc⟩ := hp.2 (by intro e; simp [e] at hlt)
      have c1 : w.cell? ⟨b, off + k, none⟩ = some (.slice p.A p.zs.length p.cap) := hc k p hq
      have hok := hp.1 p hm
      have hcrc := crc_parts 0xFFFFFFFF#32 ps k p hq
      have Hc := Lib.hid hcrc
      have hlen : p.zs.length ≤ 9223372036854775807 := Nat.le_trans hok.2.1 hok.2.2
      clear hcrc hpk hc hq
      go_wp2_with fail
      go_loop [3, 5, 6] (fun s j _ => ∃ m : Nat, m ≤ p.zs.length ∧ j = .int .i64 (m : Int) ∧ s = .int .u32 ((Mx.crc (Mx.crc 0xFFFFFFFF#32 (bytesOf (ps.take k))) (p.zs.take m)).toNat : Int)) (fun _ j _ => p.zs.length - (intOf j).toNat)
      case atStart => exact ⟨0, by omega, rfl, rfl⟩
      case round =>
        obtain ⟨m, hm1, rfl, rfl⟩ := hrel
        by_cases hmlt : m < p.zs.length
        · have hz := hok.1
          obtain ⟨zb, zo, hA⟩ := hz.some_ (by intro e; simp [e] at hmlt)
          rw [hA] at hz c1
          have c2 := hz.one m hmlt
          have hzq : p.zs[m]? = some (p.zs.getD m 0) := by rw [List.getD_eq_getElem?_getD, List.getElem?_eq_getElem hmlt]; rfl
          have hb := hz.1 (p.zs.getD m 0) (List.mem_of_getElem? hzq)
          have hbs := byte_shift (Mx.crc 0xFFFFFFFF#32 (bytesOf (ps.take k))) _ _ _ hzq
          generalize p.zs.getD m 0 = z at c2 hb hbs
          obtain ⟨hb0, hb1⟩ := hb
          have Hbs := Lib.hid hbs
          clear hbs hzq hz hA
          go_wp2_with fail
          generalize Mx.crc (Mx.crc 0xFFFFFFFF#32 (bytesOf (ps.take k))) (p.zs.take m) = c at Hbs ⊢
          rw [xor_byte c z]
          generalize c ^^^ BitVec.ofInt 32 z = d at Hbs ⊢
          go_loop [3, 6] (fun s j => ∃ n : Nat, n ≤ 8 ∧ j = .int .i64 (n : Int) ∧ s = .int .u32 ((Mx.shN n d).toNat : Int)) (fun _ j => 8 - (intOf j).toNat)
          case atStart => exact ⟨0, by omega, rfl, rfl⟩
          case round =>
            obtain ⟨n, hn8, rfl, rfl⟩ := hrel
            by_cases hlt8 : n < 8
            · go_wp2_with fail
              refine (rshift_any _ _).mono ?_
              rintro e w' ⟨rfl, rfl⟩
              go_wp2_with fail
              go_round
              case rel => exact ⟨n + 1, by omega, by go_num, by rw [Mx.shN_succ]⟩
              case measure => simp [intOf]; omega
            · obtain rfl : n = 8 := by omega
              go_wp2_with fail
              go_round
              case rel => exact ⟨m + 1, by omega, by go_num, by rw [Hbs.out]⟩
              case measure => simp [intOf]; omega
        · obtain rfl : m = p.zs.length := by omega
          go_wp2_with fail
          go_round
          case rel => exact ⟨k + 1, by omega, by go_num, by rw [Hc.out, List.take_length]⟩
          case measure => simp [intOf]; omega
    · obtain rfl : k = ps.length := by omega
      go_wp2_with fail
      go_ret
      exact ⟨ret_int (minus_val _), rfl⟩
set_option maxRecDepth 100000 in
theorem of_any (zs : List Int) (A : Option Addr) (cap : Nat) (w : World) (hz : BytesAt w A zs) (hcap : zs.length ≤ cap) (hm : cap ≤ 9223372036854775807) :
    Calls Tryd.prog 11 #[.slice A zs.length cap] w fun e w' => e = .returned (.int .u32 ((Mx.sum zs).toNat : Int)) ∧ Below w.heap.size w w' := by
  have hp := partsAt_new 24 hz hcap hm
  go_enter Tryd.func11, Tryd.ntmps11
  go_wp2_with fail
  refine (rsum_any _ _ _ _ hp (by simp)).mono ?_
  rw [bytesOf_one]
  rintro e w1 ⟨rfl, rfl⟩
  go_wp2_with fail
  go_ret
  exact ⟨rfl, (Below.refl _ _).alloc (Nat.le_refl _) _⟩
set_option maxRecDepth 100000 in
theorem rfits_any (s : BitVec 32) (zs : List Int) (A : Option Addr) (cap : Nat) (w : World) (hz : BytesAt w A zs) (hcap : zs.length ≤ cap) (hm : cap ≤ 9223372036854775807) :
    Calls Tryd.prog 10 #[.slice A zs.length cap, .int .u32 (s.toNat : Int)] w fun e w' => e = .returned (.int .i64 (fitsVal zs s)) ∧ Below w.heap.size w w' := by
  by_cases hs : Mx.sum zs = s
  · have Hv : Hid (fitsVal zs s = 0) := by unfold fitsVal; rw [if_pos hs]; exact rfl
    have hn : (((Mx.sum zs).toNat : Int) != (s.toNat : Int)) = false := by rw [u32_eq, hs]; simp
    clear hs
    go_enter Tryd.func10, Tryd.ntmps10
    go_wp2_with fail
    refine (of_any zs A cap _ hz hcap hm).mono ?_
    rintro e w1 ⟨rfl, hb⟩
    go_wp2_with fail
    go_ret
    exact ⟨ret_int Hv.out.symm, hb⟩
  · have Hv : Hid (fitsVal zs s = 5) := by unfold fitsVal; rw [if_neg hs]; exact rfl
    have hn : (((Mx.sum zs).toNat : Int) != (s.toNat : Int)) = true := by rw [u32_eq]; simp [hs]
    clear hs
    go_enter Tryd.func10, Tryd.ntmps10
    go_wp2_with fail
    refine (of_any zs A cap _ hz hcap hm).mono ?_
    rintro e w1 ⟨rfl, hb⟩
    go_wp2_with fail
    go_ret
    exact ⟨ret_int Hv.out.symm, hb⟩
end Go.Proofs.YtdmomeeilibnmaaDoor
