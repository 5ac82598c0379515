/- The page's own sum of parts. -/
/- The sum of a block: the page's own. -/
/- The page's own Seal. -/
/- The page's own Seal: the walk. -/
/- The statements' own helpers: are two rows of numbers the same. -/
import Derived.Test.YtpdfmpegcejmkaaGreatDoorUnitSum
import Derived.Test.YtpdfmpegcejmkaaGreatDoorMixRshift
import Derived.Test.YtpdfmpegcejmkaaGreatDoorRefEnt
import Derived.Test.YtpdfmpegcejmkaaGreatDoorKitInts
import Derived.Test.YtpdfmpegcejmkaaGreatDoorCodeAdd
namespace Go.Proofs.YtpdfmpegcejmkaaGreatDoor
open Go.RowKit
theorem byte_shift (c : BitVec 32) (z : Int) (zs : List Int) (k : Nat) (h : zs[k]? = some z) : Mx.crc c (zs.take (k + 1)) = Mx.shN 8 (Mx.crc c (zs.take k) ^^^ BitVec.ofInt 32 z) := by
  rw [List.take_add_one, h]; exact Mx.crc_snoc _ _ _
theorem mxor_byte (x : BitVec 32) (z : Int) : bits .xor .u32 (x.toNat : Int) z = ((x ^^^ BitVec.ofInt 32 z).toNat : Int) := by rw [bits_xor, u32_toInt]
theorem minus_val (x : BitVec 32) : (4294967295 : Int) - x.toNat = ((~~~ x).toNat : Int) := by
  rw [BitVec.toNat_not]; have := x.isLt; omega
set_option maxRecDepth 100000 in
set_option maxHeartbeats 1000000 in
theorem rsum_any (ps : List Part) (A : Option Addr) (cap : Nat) (w : World) (hp : PartsAt w A ps) (hn : ps.length ≤ 9223372036854775807) :
    Calls Tryz.prog 89 #[.slice A ps.length cap] w fun e w' => e = .returned (.int .u32 ((Mx.sum (bytesOf ps)).toNat : Int)) ∧ w = w' := by
  go_enter Tryz.func89, Tryz.ntmps89
  go_wp2_with fail
  go_loop [3, 4, 5, 6] (fun s i _ _ => ∃ k : Nat, k ≤ ps.length ∧ i = .int .i64 (k : Int) ∧ s = .int .u32 ((Mx.crc 0xFFFFFFFF#32 (bytesOf (ps.take k))).toNat : Int)) (fun _ i _ _ => ps.length - (intOf i).toNat)
  case atStart => exact ⟨0, by omega, rfl, rfl⟩
  case round =>
    obtain ⟨k, hk, rfl, rfl⟩ := hrel
    by_cases hlt : k < ps.length
    · have hq : ps[k]? = some ps[k] := List.getElem?_eq_getElem hlt
      generalize hpk : ps[k] = p at hq
      have hm : p ∈ ps := by rw [← hpk]; exact List.getElem_mem hlt
      obtain ⟨b, off, rfl, hc⟩ := hp.2 (by intro e; simp [e] at hlt)
      have c1 : w.cell? ⟨b, off + k, none⟩ = some (.slice p.A p.zs.length p.cap) := hc k p hq
      have hok := hp.1 p hm
      have hcrc := crc_parts 0xFFFFFFFF#32 ps k p hq
      have Hc := Lib.hid hcrc
      have hlen : p.zs.length ≤ 9223372036854775807 := Nat.le_trans hok.2.1 hok.2.2
      clear hcrc hpk hc hq
      go_wp2_with fail
      go_loop [3, 5, 6] (fun s j _ => ∃ m : Nat, m ≤ p.zs.length ∧ j = .int .i64 (m : Int) ∧ s = .int .u32 ((Mx.crc (Mx.crc 0xFFFFFFFF#32 (bytesOf (ps.take k))) (p.zs.take m)).toNat : Int)) (fun _ j _ => p.zs.length - (intOf j).toNat)
      case atStart => exact ⟨0, by omega, rfl, rfl⟩
      case round =>
        obtain ⟨m, hm1, rfl, rfl⟩ := hrel
        by_cases hmlt : m < p.zs.length
        · have hz := hok.1
          obtain ⟨zb, zo, hA⟩ := hz.some_ (by intro e; simp [e] at hmlt)
          rw [hA] at hz c1
          have c2 := hz.one m hmlt
          have hzq : p.zs[m]? = some (p.zs.getD m 0) := by rw [List.getD_eq_getElem?_getD, List.getElem?_eq_getElem hmlt]; rfl
          have hb := hz.1 (p.zs.getD m 0) (List.mem_of_getElem? hzq)
          have hbs := byte_shift (Mx.crc 0xFFFFFFFF#32 (bytesOf (ps.take k))) _ _ _ hzq
          generalize p.zs.getD m 0 = z at c2 hb hbs
          obtain ⟨hb0, hb1⟩ := hb
          have Hbs := Lib.hid hbs
          clear hbs hzq hz hA
          go_wp2_with fail
          generalize Mx.crc (Mx.crc 0xFFFFFFFF#32 (bytesOf (ps.take k))) (p.zs.take m) = c at Hbs ⊢
          rw [mxor_byte c z]
          generalize c ^^^ BitVec.ofInt 32 z = d at Hbs ⊢
          go_loop [3, 6] (fun s j => ∃ n : Nat, n ≤ 8 ∧ j = .int .i64 (n : Int) ∧ s = .int .u32 ((Mx.shN n d).toNat : Int)) (fun _ j => 8 - (intOf j).toNat)
          case atStart => exact ⟨0, by omega, rfl, rfl⟩
          case round =>
            obtain ⟨n, hn8, rfl, rfl⟩ := hrel
            by_cases hlt8 : n < 8
            · go_wp2_with fail
              refine (rshift_any _ _).mono ?_
              rintro e w' ⟨rfl, rfl⟩
              go_wp2_with fail
              go_round
              case rel => exact ⟨n + 1, by omega, by go_num, by rw [Mx.shN_succ]⟩
              case measure => simp [intOf]; omega
            · obtain rfl : n = 8 := by omega
              go_wp2_with fail
              go_round
              case rel => exact ⟨m + 1, by omega, by go_num, by rw [Hbs.out]⟩
              case measure => simp [intOf]; omega
        · obtain rfl : m = p.zs.length := by omega
          go_wp2_with fail
          go_round
          case rel => exact ⟨k + 1, by omega, by go_num, by rw [Hc.out, List.take_length]⟩
          case measure => simp [intOf]; omega
    · obtain rfl : k = ps.length := by omega
      go_wp2_with fail
      go_ret
      exact ⟨ret_int (minus_val _), rfl⟩
end Go.Proofs.YtpdfmpegcejmkaaGreatDoor
namespace Go.Proofs.YtpdfmpegcejmkaaGreatDoor
open Go.RowKit
theorem rsumOfRow (w : World) (A : Option Addr) (b : List Int) (c : Nat) (hb : BytesAt w A b) (hl : b.length = 256) (hc : 256 ≤ c) (hm : c ≤ 9223372036854775807) :
    Calls Tryz.prog 89 #[.slice (some ⟨w.heap.size, 0, none⟩) 2 2] (w.alloc (.cells #[.slice (cutAt A c 36) 220 (c - 36), .slice A 28 c] 27)) fun e w' => e = .returned (.int .u32 ((Mx.sum (unitRow b)).toNat : Int)) ∧ Below w.heap.size w w' := by
  have hbn := below_new w (.cells #[.slice (cutAt A c 36) 220 (c - 36), .slice A 28 c] 27)
  obtain ⟨r0, r1⟩ := row2_cells w (.slice (cutAt A c 36) 220 (c - 36)) (.slice A 28 c) 27
  have HS := rsum_any _ _ 2 _ (block_parts (hb.below hbn) hl hc hm r0 r1) (by simp)
  rw [block_row] at HS
  refine HS.mono ?_
  rintro e w' ⟨rfl, hb2⟩
  exact ⟨rfl, hb2 ▸ hbn⟩
set_option maxRecDepth 100000 in
set_option maxHeartbeats 1000000 in
theorem rsumOf_any (w : World) (A : Option Addr) (b : List Int) (c : Nat) (hb : BytesAt w A b) (hl : b.length = 256) (hc : 256 ≤ c) (hm : c ≤ 9223372036854775807) :
    Calls Tryz.prog 60 #[.slice A 256 c] w fun e w' => e = .returned (.int .u32 ((Mx.sum (unitRow b)).toNat : Int)) ∧ Below w.heap.size w w' := by
  have h1 : ∀ w, (Instr.slice 27 (.slice A 256 c) (some (.int .i64 36)) none none).run Tryz.prog w = .ok (.slice (cutAt A c 36) 220 (c - 36)) w := fun w => cut_run1 A 256 36 c w (by decide)
  have h2 : ∀ w, (Instr.slice 27 (.slice A 256 c) none (some (.int .i64 28)) none).run Tryz.prog w = .ok (.slice A 28 c) w := fun w => cut_low A 256 28 c w (by decide) hc
  have HS : Hid (Calls Tryz.prog 89 #[.slice (some ⟨w.heap.size, 0, none⟩) 2 2] (w.alloc (.cells #[.slice (cutAt A c 36) 220 (c - 36), .slice A 28 c] 27)).drew fun e w' => e = .returned (.int .u32 ((Mx.sum (unitRow b)).toNat : Int)) ∧ Below w.heap.size w.drew w') := Lib.hid (rsumOfRow w.drew A b c hb hl hc hm)
  clear hb hl
  go_enter Tryz.func60, Tryz.ntmps60
  go_wp2_with fail
  go_region_with ((go_at_call 89; refine HS.out.mono ?_; rintro e w1 ⟨rfl, hb1⟩; have hb2 : Below w.heap.size w w1 := undrew hb1))
  all_goals
    go_wp2_with fail
    go_ret
    exact ⟨rfl, hb2⟩
end Go.Proofs.YtpdfmpegcejmkaaGreatDoor
namespace Go.Proofs.YtpdfmpegcejmkaaGreatDoor
open Go.RowKit
/-- What the page's block is made of, while it is made: the unit in a box, the block's bytes so far. -/
structure SealG (w w' : World) (p g : Nat) (u : UnitV) (A : Option Addr) (c : Nat) (xs : List Int) : Prop where
  box : BlockIs w' p 34 #[.int .i64 u.kind, .int .i64 u.num, .slice A u.body.length c]
  out : BytesIs w' g xs
  below : Below w.heap.size w w'
  ne : p ≠ g
  lo : w.heap.size ≤ g
section
variable {w w' w2 : World} {p g : Nat} {u : UnitV} {A : Option Addr} {c : Nat} {xs ys : List Int}
theorem SealG.on (h : SealG w w' p g u A c xs) (hb : Below w'.heap.size w' w2) : SealG w w2 p g u A c xs := ⟨h.box.below hb h.box.lt, BlockIs.below h.out hb (BlockIs.lt h.out), h.below.trans (hb.mono h.below.size), h.ne, h.lo⟩
theorem SealG.drew (h : SealG w w' p g u A c xs) : SealG w w'.drew p g u A c xs := ⟨h.box, h.out, h.below.drew, h.ne, h.lo⟩
theorem SealG.put (h : SealG w w' p g u A c xs) (ho : BytesIs w2 g ys) (hg : w'.grownBy w2 (some g)) : SealG w w2 p g u A c ys :=
  ⟨h.box.kept hg (fun e => h.ne (Option.some.inj e)), ho, below_grown h.below hg h.below.size h.lo, h.ne, h.lo⟩
/-- Other blocks, new since, may turn. -/
theorem SealG.chg {T : Nat → Prop} (h : SealG w w' p g u A c xs) (hc : Chg T w' w2) (hp : ¬ T p) (hg : ¬ T g) (hT : ∀ k, T k → w.heap.size ≤ k) : SealG w w2 p g u A c xs :=
  ⟨h.box.keep (hc.block _ h.box.lt hp), BlockIs.keep h.out (hc.block _ (BlockIs.lt h.out) hg), hc.below h.below hT h.below.size, h.ne, h.lo⟩
theorem SealG.cells (h : SealG w w' p g u A c xs) : w'.cell? ⟨p, 0, none⟩ = some (.int .i64 u.kind) ∧ w'.cell? ⟨p, 1, none⟩ = some (.int .i64 u.num) ∧ w'.cell? ⟨p, 2, none⟩ = some (.slice A u.body.length c) := ⟨h.box.cell 0, h.box.cell 1, h.box.cell 2⟩
theorem SealG.body (h : SealG w w' p g u A c xs) (hb : BytesAt w A u.body) : BytesAt w' A u.body := hb.below h.below
theorem SealG.set (h : SealG w w' p g u A c xs) (i : Nat) (z : Int) : SealG w (w'.setCell ⟨g, i, none⟩ (.int .u8 z)) p g u A c (xs.set i z) := h.put (h.out.set1 i z) (grown_at (World.grownBy.refl _ _) i _)
end
theorem SealG.low {w w' w2 : World} {p g lo : Nat} {u : UnitV} {A : Option Addr} {c : Nat} {xs : List Int} (h : SealG w w' p g u A c xs) (hb : Below lo w' w2) (hp : p < lo) (hg : g < lo) (h0 : w.heap.size ≤ lo) : SealG w w2 p g u A c xs :=
  ⟨h.box.keep (hb.block _ hp), BlockIs.keep h.out (hb.block _ hg), h.below.trans (hb.mono h0), h.ne, h.lo⟩
end Go.Proofs.YtpdfmpegcejmkaaGreatDoor
namespace Go.Proofs.YtpdfmpegcejmkaaGreatDoor
open Go.RowKit
set_option maxRecDepth 100000 in
set_option maxHeartbeats 8000000 in
theorem rseal_any (w : World) (u : UnitV) (A : Option Addr) (c : Nat) (hb : BytesAt w A u.body) (_hc : u.body.length ≤ c) (_hm : c ≤ 9223372036854775807) :
    Calls Tryz.prog 23 #[u.val A c] w fun e w' => ∃ v, e = .returned (.tuple #[v, .int .i64 (sealR u).2]) ∧ w'.ownsRow w.heap.size 5 1 v (sealR u).1.length (u8s (sealR u).1) ∧ Below w.heap.size w w' := by
  have hbn := below_new w (.cells #[.int .i64 u.kind, .int .i64 u.num, .slice A u.body.length c] 34)
  have hB0 := BlockIs.made w 34 #[.int .i64 u.kind, .int .i64 u.num, .slice A u.body.length c]
  have HR := Lib.hid (fun w' => rright_any w' u A c)
  by_cases hu : u.right
  · have Hr : Hid (sealR u = (sealB u, 0)) := Lib.hid (by unfold sealR; rw [if_pos hu])
    have Hl := Lib.hid (seal_len hu.2.2)
    have Hh := Lib.hid (hd8_len u)
    have Hbl := Lib.hid blank_len
    have hl := hu.2.2
    have hmk := madeBlank
    have Hu := Lib.hid hu
    have Hb := Lib.hid hb
    have hkb := hu.1
    have hnb := hu.2.1
    rw [decide_eq_true hu] at HR
    rw [Hr.out]
    unfold UnitV.val at *
    clear hb hu
    go_enter Tryz.func23, Tryz.ntmps23
    go_wp2_with fail
    refine (HR.out _).mono ?_
    rintro e w1 ⟨rfl, hb1⟩
    have B1 := Lib.hid (hB0.below hb1 hB0.lt)
    have Hb1 := Lib.hid (hbn.trans (hb1.mono hbn.size))
    have b2 := below_new w1 (.cells #[.slice none 0 0, .bool false] 79)
    have B2 := Lib.hid (B1.out.below b2 B1.out.lt)
    have N2 := Lib.hid (RefN.new w1)
    have hp1 := B1.out.lt
    have HP2 := Lib.hid (N2.out.put 1 u.kind (by decide) (by omega) (by show u.kind ≤ 255; omega) (by simp) (by decide))
    have c0 := B1.out.cell 0
    have c1 := B1.out.cell 1
    have c2 := B1.out.cell 2
    simp only [List.getElem?_toArray, List.getElem?_cons_zero, List.getElem?_cons_succ] at c0 c1 c2
    clear hB0 hbn hb1 HR
    go_wp2_with fail
    refine HP2.out.mono ?_
    rintro e w3 ⟨rfl, n3, b3⟩
    have B3 := Lib.hid (B2.out.below b3 hp1)
    have HP3 := Lib.hid (n3.put 6 u.num (by decide) (by omega) (by show u.num ≤ 1099511627776; omega) (by rw [List.length_append, le_len]; decide) (by decide))
    have Hb3 := Lib.hid (Hb1.out.trans ((b2.mono Hb1.out.size).trans (b3.mono Hb1.out.size)))
    have c1 := B3.out.cell 1
    have c2 := B3.out.cell 2
    simp only [List.getElem?_toArray, List.getElem?_cons_zero, List.getElem?_cons_succ] at c1 c2
    clear n3 b3 HP2 B2 N2 b2
    go_wp2_with fail
    refine HP3.out.mono ?_
    rintro e w4 ⟨rfl, n4, b4⟩
    have B4 := Lib.hid (B3.out.below b4 hp1)
    have HP4 := Lib.hid (n4.put 1 (u.body.length : Int) (by decide) (by omega) (by show (u.body.length : Int) ≤ 255; omega) (by rw [List.length_append, List.length_append, le_len, le_len]; decide) (by decide))
    have Hb4 := Lib.hid (Hb3.out.trans (b4.mono Hb1.out.size))
    have c2 := B4.out.cell 2
    simp only [List.getElem?_toArray, List.getElem?_cons_zero, List.getElem?_cons_succ] at c2
    clear n4 b4 HP3 B3
    go_wp2_with fail
    refine HP4.out.mono ?_
    rintro e w5 ⟨rfl, n5, b5⟩
    have B5 := Lib.hid (B4.out.below b5 hp1)
    have Hb5 := Lib.hid (Hb4.out.trans (b5.mono Hb1.out.size))
    have hh5 : ([] ++ le (1 : Int).toNat u.kind ++ le (6 : Int).toNat u.num ++ le (1 : Int).toNat (u.body.length : Int)) = u.hd8 := by rw [← head_bytes u Hu.out]; unfold fieldBytes; simp
    rw [hh5] at n5
    have b6 := below_new w5 (.cells (u8s blank256).toArray 5)
    have G6 := BlockIs.made w5 5 (u8s blank256).toArray
    have K6a : Hid (SealG w (w5.alloc (.cells (u8s blank256).toArray 5)) w.heap.size w5.heap.size u A c blank256) := Lib.hid ⟨B5.out.below b6 B5.out.lt, G6, Hb5.out.trans (b6.mono Hb5.out.size), Nat.ne_of_lt B5.out.lt, Hb5.out.size⟩
    obtain ⟨X5, cap5, d5, z5⟩ := (n5.on b6).bytes
    rw [Hh.out] at d5
    have Z5 := Lib.hid z5
    clear n5 b5 HP4 B4 B5 b6 G6 z5 hh5 Hb3 Hb4 B1
    generalize hgg : w5.heap.size = g at *
    go_wp2_with (first | (refine wpList_copy_u8 (by rfl) (.tmp 27) (.tmp 31) (by rfl) g 0 256 256 8 cap5 X5 (by rfl) (by rfl) blank256 u.hd8 K6a.out.out Z5.out Hh.out (by decide) (by rw [Hbl.out]; decide) ?_; intro w7 ho7 hg7 hs7; have K7a := Lib.hid (K6a.out.put ho7 hg7); clear ho7 hg7 hs7) | fail)
    have K7 : Hid (SealG w w7 w.heap.size g u A c (layB u.hd8 (u.body.take 0) 0)) := Lib.hid (by have := K7a.out; rw [show Go.splice blank256 0 u.hd8 = layB u.hd8 [] 0 from lay_head Hh.out] at this; exact this)
    clear K7a K6a Z5 d5 hgg c0 c1 c2 hmk
    go_loopg [6] u.body.length (fun gk i wx => ∃ k : Nat, gk = u.body.length - k ∧ k ≤ u.body.length ∧ i = .int .i64 (k : Int) ∧ Hid (SealG w wx w.heap.size g u A c (layB u.hd8 (u.body.take k) 0)))
    case atStart => exact ⟨0, rfl, Nat.zero_le _, rfl, K7⟩
    case round =>
      obtain ⟨k, hgk, hk, rfl, hK⟩ := hrel
      have Hgk := Lib.hid hgk
      have K := Lib.hid hK.out
      clear hgk hK
      obtain ⟨c0, c1, c2⟩ := K.out.cells
      by_cases hlt : (k : Int) < (u.body.length : Int)
      · have hltN : k < u.body.length := by omega
        have hbd := K.out.body Hb.out
        obtain ⟨b0, off, hA⟩ := hbd.some_ (by intro e; rw [e] at hltN; exact absurd hltN (Nat.not_lt_zero _))
        rw [hA] at c2 hbd
        have cb := hbd.one k hltN
        clear hA
        have Hll := Lib.hid (lay_len (hd := u.hd8) (body := u.body.take k) (e := 0) Hh.out (by rw [List.length_take]; omega))
        by_cases h20 : k < 20
        · have h20i : (k : Int) < 20 := by omega
          have d1 := K.out.out.cell (8 + k) ((layB u.hd8 (u.body.take k) 0).getD (8 + k) 0) (by rw [List.getD_eq_getElem?_getD, List.getElem?_eq_getElem (by rw [Hll.out]; omega)]; rfl)
          have f1 := BlockIs.free K.out.out (8 + k)
          have K2 : Hid (SealG w (wr.setCell ⟨g, 8 + k, none⟩ (.int .u8 (u.body.getD k 0))) w.heap.size g u A c (layB u.hd8 (u.body.take (k + 1)) 0)) := Lib.hid (by
            have h1 := K.out.set (8 + k) (u.body.getD k 0)
            have h2 := lay_set (hd := u.hd8) Hh.out hl k hltN
            rw [if_pos h20] at h2
            rw [h2] at h1
            exact h1)
          clear hbd
          generalize u.body.getD k 0 = z at cb K2
          generalize (layB u.hd8 (u.body.take k) 0).getD (8 + k) 0 = y at d1
          go_wp2_with fail
          go_roundg (u.body.length - (k + 1))
          case measure => rw [Hgk.out]; omega
          case rel => exact ⟨k + 1, rfl, by omega, by go_num, K2⟩
        · have h20i : ¬ (k : Int) < 20 := by omega
          have d1 := K.out.out.cell (16 + k) ((layB u.hd8 (u.body.take k) 0).getD (16 + k) 0) (by rw [List.getD_eq_getElem?_getD, List.getElem?_eq_getElem (by rw [Hll.out]; omega)]; rfl)
          have f1 := BlockIs.free K.out.out (16 + k)
          have K2 : Hid (SealG w (wr.setCell ⟨g, 16 + k, none⟩ (.int .u8 (u.body.getD k 0))) w.heap.size g u A c (layB u.hd8 (u.body.take (k + 1)) 0)) := Lib.hid (by
            have h1 := K.out.set (16 + k) (u.body.getD k 0)
            have h2 := lay_set (hd := u.hd8) Hh.out hl k hltN
            rw [if_neg h20] at h2
            rw [h2] at h1
            exact h1)
          clear hbd
          generalize u.body.getD k 0 = z at cb K2
          generalize (layB u.hd8 (u.body.take k) 0).getD (16 + k) 0 = y at d1
          go_wp2_with fail
          go_roundg (u.body.length - (k + 1))
          case measure => rw [Hgk.out]; omega
          case rel => exact ⟨k + 1, rfl, by omega, by go_num, K2⟩
      · obtain rfl : k = u.body.length := by omega
        rw [List.take_length] at K
        by_cases h20 : u.body.length ≤ 20
        · have h20i : ¬ (20 : Int) < (u.body.length : Int) := by omega
          have K6 : Hid (SealG w wr w.heap.size g u A c (preB u)) := Lib.hid (by
            have := K.out
            unfold preB
            rw [if_neg (by omega)]
            exact this)
          generalize wr = w6 at *
          have Hsz6 := Lib.hid (BlockIs.lt K6.out.out)
          have HX0 : ∃ x, Mx.sum (unitRow (preB u)) = x := ⟨_, rfl⟩
          obtain ⟨x, hx⟩ := HX0
          have hxl : (x.toNat : Int) < 4294967296 := by have := x.isLt; omega
          have HSm : Hid (le 4 (x.toNat : Int) = u.sumB) := Lib.hid (by rw [← hx, pre_row]; rfl)
          have N7 := Lib.hid (RefN.new w6)
          have K7 := Lib.hid (K6.out.on (below_new w6 (.cells #[.slice none 0 0, .bool false] 79)))
          have HU := Lib.hid (rsumOf_any _ (some ⟨g, 0, none⟩) (preB u) 256 (K7.out.out.reads (pre_bd Hu.out Hb.out.1)) (pre_len hl) (by decide) (by decide))
          rw [hx] at HU
          have Hpl := Lib.hid (pre_len hl)
          clear hx c0 c1
          go_wp2_with fail
          refine HU.out.mono ?_
          rintro e w8 ⟨rfl, hb8⟩
          have N8 := Lib.hid (N7.out.on hb8)
          have K8 := Lib.hid (K7.out.on hb8)
          have HP8 := Lib.hid (N8.out.put 4 (x.toNat : Int) (by decide) (by omega) (by show (x.toNat : Int) ≤ 4294967295; omega) (by simp) (by decide))
          clear hb8 HU
          go_wp2_with fail
          refine HP8.out.mono ?_
          rintro e w9 ⟨rfl, n9, b9⟩
          have hp6 := BlockIs.lt K6.out.box
          have K9 := Lib.hid (K8.out.low b9 hp6 Hsz6.out K6.out.below.size)
          obtain ⟨X9, cap9, d9, z9⟩ := n9.bytes
          rw [show (([] : List Int) ++ le (4 : Int).toNat (x.toNat : Int)) = le 4 (x.toNat : Int) from rfl] at d9 z9
          rw [le_len] at d9
          have Z9 := Lib.hid z9
          clear n9 b9 z9 HP8 N8 K8 N7 K7 hp6
          go_wp2_with fail
          go_region_held3 (fun w' => w'.cell? ⟨w6.heap.size, 0, none⟩ = some (.slice X9 4 cap9)) (first | exact d9 | exact m9) (first
            | (refine step_copy_u8 (by rfl) (.tmp 74) (.tmp 78) (by rfl) g 28 228 228 4 cap9 X9 (by rfl) (by rfl) (preB u) (le 4 (x.toNat : Int)) (by first | exact K9.out.out | exact K9.out.drew.out) (by first | exact Z9.out | exact Z9.out.drewN 1) (le_len _ _) (by decide) (by rw [Hpl.out]; decide) ?_; intro w10 ho10 hg10 hs10; have K10 := Lib.hid ((by first | exact K9.out.put ho10 hg10 | exact K9.out.drew.put ho10 hg10) : SealG w w10 w.heap.size g u A c (Go.splice (preB u) 28 (le 4 (x.toNat : Int)))); have m9 : w10.cell? ⟨w6.heap.size, 0, none⟩ = some (.slice X9 4 cap9) := (hg10.cell d9 (fun e => absurd (Option.some.inj (show some w6.heap.size = some g from e)) (by have := Hsz6.out; omega))); clear ho10 hg10 hs10)
            | fail)
          all_goals
            go_wp2_with fail
            go_ret2
            refine ⟨_, rfl, ?_, K10.out.below⟩
            have := K10.out.out
            rw [HSm.out, show Go.splice (preB u) 28 u.sumB = sealB u from pre_sum u] at this
            rw [Hl.out]
            exact own_bytesIs this Hl.out K10.out.lo (by decide)
        · have h20i : (20 : Int) < (u.body.length : Int) := by omega
          have Hl2 : Hid ((layB u.hd8 u.body 0).length = 256) := Lib.hid (lay_len Hh.out hl)
          have d255 := K.out.out.cell 255 ((layB u.hd8 u.body 0).getD 255 0) (by rw [List.getD_eq_getElem?_getD, List.getElem?_eq_getElem (by rw [Hl2.out]; decide)]; rfl)
          have f255 := BlockIs.free K.out.out 255
          have K6 : Hid (SealG w (wr.setCell ⟨g, 255, none⟩ (.int .u8 1)) w.heap.size g u A c (preB u)) := Lib.hid (by
            have h1 := K.out.set 255 1
            rw [lay_end Hh.out hl] at h1
            unfold preB
            rw [if_pos (by omega)]
            exact h1)
          have Hsz0 := Lib.hid (show (wr.setCell ⟨g, 255, none⟩ (.int .u8 1)).heap.size = wr.heap.size by simp [World.setCell])
          obtain ⟨w6, hw6⟩ : ∃ w6, wr.setCell ⟨g, 255, none⟩ (.int .u8 1) = w6 := ⟨_, rfl⟩
          rw [hw6] at K6 Hsz0
          have Hw6 := Lib.hid hw6
          clear hw6
          have Hsz6 := Lib.hid (BlockIs.lt K6.out.out)
          have HX0 : ∃ x, Mx.sum (unitRow (preB u)) = x := ⟨_, rfl⟩
          obtain ⟨x, hx⟩ := HX0
          have hxl : (x.toNat : Int) < 4294967296 := by have := x.isLt; omega
          have HSm : Hid (le 4 (x.toNat : Int) = u.sumB) := Lib.hid (by rw [← hx, pre_row]; rfl)
          have N7 := Lib.hid (RefN.new w6)
          have K7 := Lib.hid (K6.out.on (below_new w6 (.cells #[.slice none 0 0, .bool false] 79)))
          have HU := Lib.hid (rsumOf_any _ (some ⟨g, 0, none⟩) (preB u) 256 (K7.out.out.reads (pre_bd Hu.out Hb.out.1)) (pre_len hl) (by decide) (by decide))
          rw [hx] at HU
          have Hpl := Lib.hid (pre_len hl)
          clear hx c0 c1
          go_wp2_with fail
          rw [Hw6.out]
          try rw [← Hsz0.out]
          refine HU.out.mono ?_
          rintro e w8 ⟨rfl, hb8⟩
          have N8 := Lib.hid (N7.out.on hb8)
          have K8 := Lib.hid (K7.out.on hb8)
          have HP8 := Lib.hid (N8.out.put 4 (x.toNat : Int) (by decide) (by omega) (by show (x.toNat : Int) ≤ 4294967295; omega) (by simp) (by decide))
          clear hb8 HU
          go_wp2_with fail
          refine HP8.out.mono ?_
          rintro e w9 ⟨rfl, n9, b9⟩
          have hp6 := BlockIs.lt K6.out.box
          have K9 := Lib.hid (K8.out.low b9 hp6 Hsz6.out K6.out.below.size)
          obtain ⟨X9, cap9, d9, z9⟩ := n9.bytes
          rw [show (([] : List Int) ++ le (4 : Int).toNat (x.toNat : Int)) = le 4 (x.toNat : Int) from rfl] at d9 z9
          rw [le_len] at d9
          have Z9 := Lib.hid z9
          clear n9 b9 z9 HP8 N8 K8 N7 K7 hp6
          go_wp2_with fail
          go_region_held3 (fun w' => w'.cell? ⟨w6.heap.size, 0, none⟩ = some (.slice X9 4 cap9)) (first | exact d9 | exact m9) (first
            | (refine step_copy_u8 (by rfl) (.tmp 74) (.tmp 78) (by rfl) g 28 228 228 4 cap9 X9 (by rfl) (by rfl) (preB u) (le 4 (x.toNat : Int)) (by first | exact K9.out.out | exact K9.out.drew.out) (by first | exact Z9.out | exact Z9.out.drewN 1) (le_len _ _) (by decide) (by rw [Hpl.out]; decide) ?_; intro w10 ho10 hg10 hs10; have K10 := Lib.hid ((by first | exact K9.out.put ho10 hg10 | exact K9.out.drew.put ho10 hg10) : SealG w w10 w.heap.size g u A c (Go.splice (preB u) 28 (le 4 (x.toNat : Int)))); have m9 : w10.cell? ⟨w6.heap.size, 0, none⟩ = some (.slice X9 4 cap9) := (hg10.cell d9 (fun e => absurd (Option.some.inj (show some w6.heap.size = some g from e)) (by have := Hsz6.out; omega))); clear ho10 hg10 hs10)
            | fail)
          all_goals
            go_wp2_with fail
            go_ret2
            refine ⟨_, rfl, ?_, K10.out.below⟩
            have := K10.out.out
            rw [HSm.out, show Go.splice (preB u) 28 u.sumB = sealB u from pre_sum u] at this
            rw [Hl.out]
            exact own_bytesIs this Hl.out K10.out.lo (by decide)
  · have Hr : Hid (sealR u = ([], 2)) := Lib.hid (by unfold sealR; rw [if_neg hu])
    rw [decide_eq_false hu] at HR
    rw [Hr.out]
    unfold UnitV.val at *
    clear hb hu hB0
    go_enter Tryz.func23, Tryz.ntmps23
    go_wp2_with fail
    refine (HR.out _).mono ?_
    rintro e w1 ⟨rfl, hb1⟩
    have Hb1 := Lib.hid (hbn.trans (hb1.mono hbn.size))
    clear hb1 hbn
    go_wp2_with fail
    go_ret2
    exact ⟨_, rfl, World.ownsRow_nil _ _ _ _, Hb1.out⟩
end Go.Proofs.YtpdfmpegcejmkaaGreatDoor
namespace Go.Proofs.YtpdfmpegcejmkaaGreatDoor
open Go.RowKit
set_option maxRecDepth 100000 in
set_option maxHeartbeats 1000000 in
theorem sameInts_any (xs ys : List Int) (A B : Option Addr) (ca cb : Nat) (w : World) (ha : IntsAt w A xs) (hb : IntsAt w B ys) (_hx : xs.length ≤ 9223372036854775807) :
    Calls Tryz.prog 172 #[.slice A xs.length ca, .slice B ys.length cb] w fun e w' => e = .returned (.bool (sameB xs ys)) ∧ ∃ n, w' = w.drewN n := by
  by_cases hl : xs.length = ys.length
  · have hne : ((xs.length : Int) != (ys.length : Int)) = false := by rw [hl]; simp
    have Hl := Lib.hid hl; clear hl
    go_enter Tryz.func172, Tryz.ntmps172
    go_wp2_with fail
    go_loopg [5] xs.length (fun g i wx => (∃ nq, wx = w.drewN nq) ∧ ∃ k : Nat, k ≤ xs.length ∧ g = xs.length - k ∧ i = .int .i64 (k : Int) ∧ Hid (xs.take k = ys.take k))
    case atStart => exact ⟨⟨0, rfl⟩, 0, by omega, rfl, rfl, Lib.hid rfl⟩
    case round =>
      obtain ⟨⟨nq, rfl⟩, k, hk, hg, rfl, hp⟩ := hrel
      have Hg := Lib.hid hg; clear hg
      by_cases hlt : k < xs.length
      · have hly : k < ys.length := by have := Hl.out; omega
        obtain ⟨b1, o1, rfl⟩ := ha.some_ (by intro e; simp [e] at hlt)
        obtain ⟨b2, o2, rfl⟩ := hb.some_ (by intro e; simp [e] at hly)
        have c1 := ha.one k hlt
        have c2 := hb.one k hly
        have Hs : ∀ x y, xs.getD k 0 = x → ys.getD k 0 = y → Hid (((x != y) = true → sameB xs ys = false) ∧ ((x != y) = false → xs.take (k + 1) = ys.take (k + 1))) := fun x y h1 h2 =>
          Lib.hid ⟨fun h => same_not xs ys k hlt hly (by rw [h1, h2]; exact h), fun h => same_next xs ys k hlt hly hp.out (by rw [h1, h2]; exact h)⟩
        generalize xs.getD k 0 = x at c1 Hs
        generalize ys.getD k 0 = y at c2 Hs
        have Hs := Hs x y rfl rfl
        go_wp2_with fail
        go_quiet (fail)
        go_wp2_with fail
        · go_ret
          exact ⟨ret_bool (Hs.out.1 (by assumption)).symm, _, World.drewN_drewN _ _ _⟩
        · go_roundg (xs.length - (k + 1))
          case measure => rw [Hg.out]; omega
          case rel => exact ⟨⟨_, rfl⟩, k + 1, by omega, rfl, by go_num, Lib.hid (Hs.out.2 (by assumption))⟩
      · have hkk : k = xs.length := by omega
        have Hk := Lib.hid hkk; clear hkk
        go_wp2_with fail
        go_ret
        exact ⟨ret_bool (same_all xs ys k hp.out Hk.out Hl.out).symm, _, rfl⟩
  · have hne : ((xs.length : Int) != (ys.length : Int)) = true := by simp; omega
    have Hl := Lib.hid hl; clear hl
    go_enter Tryz.func172, Tryz.ntmps172
    go_wp2_with fail
    go_ret
    exact ⟨ret_bool (same_len xs ys Hl.out).symm, 0, rfl⟩
end Go.Proofs.YtpdfmpegcejmkaaGreatDoor
