/- One shift, the page's own. -/
/- The page's own sum of parts. -/
/- The sum of a block: the page's own. -/
/- The page's own Seal. -/
import Derived.Test.YtpdfmpegcejmkaaGreatDoorMixShift
import Derived.Test.YtpdfmpegcejmkaaGreatDoorMixSum
import Derived.Test.YtpdfmpegcejmkaaGreatDoorCodeConcat
import Derived.Test.YtpdfmpegcejmkaaGreatDoorRefRight
import Derived.Test.YtpdfmpegcejmkaaGreatDoorRefEnt
namespace Go.Proofs.YtpdfmpegcejmkaaGreatDoor
open Go.RowKit
theorem rshift_any (x : BitVec 32) (w : World) :
    Calls Tryz.prog 116 #[.int .u32 (x.toNat : Int)] w fun e w' => e = .returned (.int .u32 ((Mx.sh x).toNat : Int)) ∧ w = w' := by
  cases hb : x.getLsbD 0
  · have h := hb
    rw [lsb_mod] at h
    have Hb := Lib.hid hb; clear hb
    go_enter Tryz.func116, Tryz.ntmps116
    go_wp2
    go_ret
    exact ⟨ret_int (sh_none x Hb.out), rfl⟩
  · have h := hb
    rw [lsb_mod] at h
    have Hb := Lib.hid hb; clear hb
    go_enter Tryz.func116, Tryz.ntmps116
    go_wp2
    go_ret
    exact ⟨ret_int (sh_one x Hb.out), rfl⟩
end Go.Proofs.YtpdfmpegcejmkaaGreatDoor
namespace Go.Proofs.YtpdfmpegcejmkaaGreatDoor
open Go.RowKit
theorem byte_shift (c : BitVec 32) (z : Int) (zs : List Int) (k : Nat) (h : zs[k]? = some z) : Mx.crc c (zs.take (k + 1)) = Mx.shN 8 (Mx.crc c (zs.take k) ^^^ BitVec.ofInt 32 z) := by
  rw [List.take_add_one, h]; exact Mx.crc_snoc _ _ _
theorem mxor_byte (x : BitVec 32) (z : Int) : bits .xor .u32 (x.toNat : Int) z = ((x ^^^ BitVec.ofInt 32 z).toNat : Int) := by rw [bits_xor, u32_toInt]
theorem minus_val (x : BitVec 32) : (4294967295 : Int) - x.toNat = ((~~~ x).toNat : Int) := by
  rw [BitVec.toNat_not]; have := x.isLt; omega
set_option maxRecDepth 100000 in
set_option maxHeartbeats 1000000 in
theorem rsum_any (ps : List Part) (A : Option Addr) (cap : Nat) (w : World) (hp : PartsAt w A ps) (hn : ps.length ≤ 9223372036854775807) :
    Calls Tryz.prog 89 #[.slice A ps.length cap] w fun e w' => e = .returned (.int .u32 ((Mx.sum (bytesOf ps)).toNat : Int)) ∧ w = w' := by
  go_enter Tryz.func89, Tryz.ntmps89
  go_wp2_with fail
  go_loop [3, 4, 5, 6] (fun s i _ _ => ∃ k : Nat, k ≤ ps.length ∧ i = .int .i64 (k : Int) ∧ s = .int .u32 ((Mx.crc 0xFFFFFFFF#32 (bytesOf (ps.take k))).toNat : Int)) (fun _ i _ _ => ps.length - (intOf i).toNat)
  case atStart => exact ⟨0, by omega, rfl, rfl⟩
  case round =>
    obtain ⟨k, hk, rfl, rfl⟩ := hrel
    by_cases hlt : k < ps.length
    · have hq : ps[k]? = some ps[k] := List.getElem?_eq_getElem hlt
      generalize hpk : ps[k] = p at hq
      have hm : p ∈ ps := by rw [← hpk]; exact List.getElem_mem hlt
      obtain ⟨b, off, rfl, hc⟩ := hp.2 (by intro e; simp [e] at hlt)
      have c1 : w.cell? ⟨b, off + k, none⟩ = some (.slice p.A p.zs.length p.cap) := hc k p hq
      have hok := hp.1 p hm
      have hcrc := crc_parts 0xFFFFFFFF#32 ps k p hq
      have Hc := Lib.hid hcrc
      have hlen : p.zs.length ≤ 9223372036854775807 := Nat.le_trans hok.2.1 hok.2.2
      clear hcrc hpk hc hq
      go_wp2_with fail
      go_loop [3, 5, 6] (fun s j _ => ∃ m : Nat, m ≤ p.zs.length ∧ j = .int .i64 (m : Int) ∧ s = .int .u32 ((Mx.crc (Mx.crc 0xFFFFFFFF#32 (bytesOf (ps.take k))) (p.zs.take m)).toNat : Int)) (fun _ j _ => p.zs.length - (intOf j).toNat)
      case atStart => exact ⟨0, by omega, rfl, rfl⟩
      case round =>
        obtain ⟨m, hm1, rfl, rfl⟩ := hrel
        by_cases hmlt : m < p.zs.length
        · have hz := hok.1
          obtain ⟨zb, zo, hA⟩ := hz.some_ (by intro e; simp [e] at hmlt)
          rw [hA] at hz c1
          have c2 := hz.one m hmlt
          have hzq : p.zs[m]? = some (p.zs.getD m 0) := by rw [List.getD_eq_getElem?_getD, List.getElem?_eq_getElem hmlt]; rfl
          have hb := hz.1 (p.zs.getD m 0) (List.mem_of_getElem? hzq)
          have hbs := byte_shift (Mx.crc 0xFFFFFFFF#32 (bytesOf (ps.take k))) _ _ _ hzq
          generalize p.zs.getD m 0 = z at c2 hb hbs
          obtain ⟨hb0, hb1⟩ := hb
          have Hbs := Lib.hid hbs
          clear hbs hzq hz hA
          go_wp2_with fail
          generalize Mx.crc (Mx.crc 0xFFFFFFFF#32 (bytesOf (ps.take k))) (p.zs.take m) = c at Hbs ⊢
          rw [mxor_byte c z]
          generalize c ^^^ BitVec.ofInt 32 z = d at Hbs ⊢
          go_loop [3, 6] (fun s j => ∃ n : Nat, n ≤ 8 ∧ j = .int .i64 (n : Int) ∧ s = .int .u32 ((Mx.shN n d).toNat : Int)) (fun _ j => 8 - (intOf j).toNat)
          case atStart => exact ⟨0, by omega, rfl, rfl⟩
          case round =>
            obtain ⟨n, hn8, rfl, rfl⟩ := hrel
            by_cases hlt8 : n < 8
            · go_wp2_with fail
              refine (rshift_any _ _).mono ?_
              rintro e w' ⟨rfl, rfl⟩
              go_wp2_with fail
              go_round
              case rel => exact ⟨n + 1, by omega, by go_num, by rw [Mx.shN_succ]⟩
              case measure => simp [intOf]; omega
            · obtain rfl : n = 8 := by omega
              go_wp2_with fail
              go_round
              case rel => exact ⟨m + 1, by omega, by go_num, by rw [Hbs.out]⟩
              case measure => simp [intOf]; omega
        · obtain rfl : m = p.zs.length := by omega
          go_wp2_with fail
          go_round
          case rel => exact ⟨k + 1, by omega, by go_num, by rw [Hc.out, List.take_length]⟩
          case measure => simp [intOf]; omega
    · obtain rfl : k = ps.length := by omega
      go_wp2_with fail
      go_ret
      exact ⟨ret_int (minus_val _), rfl⟩
end Go.Proofs.YtpdfmpegcejmkaaGreatDoor
namespace Go.Proofs.YtpdfmpegcejmkaaGreatDoor
open Go.RowKit
theorem rsumOfRow (w : World) (A : Option Addr) (b : List Int) (c : Nat) (hb : BytesAt w A b) (hl : b.length = 256) (hc : 256 ≤ c) (hm : c ≤ 9223372036854775807) :
    Calls Tryz.prog 89 #[.slice (some ⟨w.heap.size, 0, none⟩) 2 2] (w.alloc (.cells #[.slice (cutAt A c 36) 220 (c - 36), .slice A 28 c] 27)) fun e w' => e = .returned (.int .u32 ((Mx.sum (unitRow b)).toNat : Int)) ∧ Below w.heap.size w w' := by
  have hbn := below_new w (.cells #[.slice (cutAt A c 36) 220 (c - 36), .slice A 28 c] 27)
  obtain ⟨r0, r1⟩ := row2_cells w (.slice (cutAt A c 36) 220 (c - 36)) (.slice A 28 c) 27
  have HS := rsum_any _ _ 2 _ (block_parts (hb.below hbn) hl hc hm r0 r1) (by simp)
  rw [block_row] at HS
  refine HS.mono ?_
  rintro e w' ⟨rfl, hb2⟩
  exact ⟨rfl, hb2 ▸ hbn⟩
set_option maxRecDepth 100000 in
set_option maxHeartbeats 1000000 in
theorem rsumOf_any (w : World) (A : Option Addr) (b : List Int) (c : Nat) (hb : BytesAt w A b) (hl : b.length = 256) (hc : 256 ≤ c) (hm : c ≤ 9223372036854775807) :
    Calls Tryz.prog 60 #[.slice A 256 c] w fun e w' => e = .returned (.int .u32 ((Mx.sum (unitRow b)).toNat : Int)) ∧ Below w.heap.size w w' := by
  have h1 : ∀ w, (Instr.slice 27 (.slice A 256 c) (some (.int .i64 36)) none none).run Tryz.prog w = .ok (.slice (cutAt A c 36) 220 (c - 36)) w := fun w => cut_run1 A 256 36 c w (by decide)
  have h2 : ∀ w, (Instr.slice 27 (.slice A 256 c) none (some (.int .i64 28)) none).run Tryz.prog w = .ok (.slice A 28 c) w := fun w => cut_low A 256 28 c w (by decide) hc
  have HS : Hid (Calls Tryz.prog 89 #[.slice (some ⟨w.heap.size, 0, none⟩) 2 2] (w.alloc (.cells #[.slice (cutAt A c 36) 220 (c - 36), .slice A 28 c] 27)).drew fun e w' => e = .returned (.int .u32 ((Mx.sum (unitRow b)).toNat : Int)) ∧ Below w.heap.size w.drew w') := Lib.hid (rsumOfRow w.drew A b c hb hl hc hm)
  clear hb hl
  go_enter Tryz.func60, Tryz.ntmps60
  go_wp2_with fail
  go_region_with ((go_at_call 89; refine HS.out.mono ?_; rintro e w1 ⟨rfl, hb1⟩; have hb2 : Below w.heap.size w w1 := undrew hb1))
  all_goals
    go_wp2_with fail
    go_ret
    exact ⟨rfl, hb2⟩
end Go.Proofs.YtpdfmpegcejmkaaGreatDoor
namespace Go.Proofs.YtpdfmpegcejmkaaGreatDoor
open Go.RowKit
/-- What the page's block is made of, while it is made: the unit in a box, the block's bytes so far. -/
structure SealG (w w' : World) (p g : Nat) (u : UnitV) (A : Option Addr) (c : Nat) (xs : List Int) : Prop where
  box : BlockIs w' p 34 #[.int .i64 u.kind, .int .i64 u.num, .slice A u.body.length c]
  out : BytesIs w' g xs
  below : Below w.heap.size w w'
  ne : p ≠ g
  lo : w.heap.size ≤ g
section
variable {w w' w2 : World} {p g : Nat} {u : UnitV} {A : Option Addr} {c : Nat} {xs ys : List Int}
theorem SealG.on (h : SealG w w' p g u A c xs) (hb : Below w'.heap.size w' w2) : SealG w w2 p g u A c xs := ⟨h.box.below hb h.box.lt, BlockIs.below h.out hb (BlockIs.lt h.out), h.below.trans (hb.mono h.below.size), h.ne, h.lo⟩
theorem SealG.drew (h : SealG w w' p g u A c xs) : SealG w w'.drew p g u A c xs := ⟨h.box, h.out, h.below.drew, h.ne, h.lo⟩
theorem SealG.put (h : SealG w w' p g u A c xs) (ho : BytesIs w2 g ys) (hg : w'.grownBy w2 (some g)) : SealG w w2 p g u A c ys :=
  ⟨h.box.kept hg (fun e => h.ne (Option.some.inj e)), ho, below_grown h.below hg h.below.size h.lo, h.ne, h.lo⟩
/-- Other blocks, new since, may turn. -/
theorem SealG.chg {T : Nat → Prop} (h : SealG w w' p g u A c xs) (hc : Chg T w' w2) (hp : ¬ T p) (hg : ¬ T g) (hT : ∀ k, T k → w.heap.size ≤ k) : SealG w w2 p g u A c xs :=
  ⟨h.box.keep (hc.block _ h.box.lt hp), BlockIs.keep h.out (hc.block _ (BlockIs.lt h.out) hg), hc.below h.below hT h.below.size, h.ne, h.lo⟩
theorem SealG.cells (h : SealG w w' p g u A c xs) : w'.cell? ⟨p, 0, none⟩ = some (.int .i64 u.kind) ∧ w'.cell? ⟨p, 1, none⟩ = some (.int .i64 u.num) ∧ w'.cell? ⟨p, 2, none⟩ = some (.slice A u.body.length c) := ⟨h.box.cell 0, h.box.cell 1, h.box.cell 2⟩
theorem SealG.body (h : SealG w w' p g u A c xs) (hb : BytesAt w A u.body) : BytesAt w' A u.body := hb.below h.below
theorem SealG.set (h : SealG w w' p g u A c xs) (i : Nat) (z : Int) : SealG w (w'.setCell ⟨g, i, none⟩ (.int .u8 z)) p g u A c (xs.set i z) := h.put (h.out.set1 i z) (grown_at (World.grownBy.refl _ _) i _)
end
theorem SealG.low {w w' w2 : World} {p g lo : Nat} {u : UnitV} {A : Option Addr} {c : Nat} {xs : List Int} (h : SealG w w' p g u A c xs) (hb : Below lo w' w2) (hp : p < lo) (hg : g < lo) (h0 : w.heap.size ≤ lo) : SealG w w2 p g u A c xs :=
  ⟨h.box.keep (hb.block _ hp), BlockIs.keep h.out (hb.block _ hg), h.below.trans (hb.mono h0), h.ne, h.lo⟩
end Go.Proofs.YtpdfmpegcejmkaaGreatDoor
