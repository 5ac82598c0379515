/- The page's own Seal: the walk. -/
/- Units compared. -/
/- Bytes that are owned, where they lie. -/
import Derived.Test.YtpdfmpegcejmkaaGreatDoorRef4Seal
import Derived.Test.YtpdfmpegcejmkaaGreatDoorUnitRight
import Derived.Test.YtpdfmpegcejmkaaGreatDoorKitChg
import Derived.Lib.SmallJoins
import Derived.Test.YtpdfmpegcejmkaaGreatDoorKitBase
namespace Go.Proofs.YtpdfmpegcejmkaaGreatDoor
open Go.RowKit
set_option maxRecDepth 100000 in
set_option maxHeartbeats 8000000 in
theorem rseal_any (w : World) (u : UnitV) (A : Option Addr) (c : Nat) (hb : BytesAt w A u.body) (_hc : u.body.length ≤ c) (_hm : c ≤ 9223372036854775807) :
    Calls Tryz.prog 23 #[u.val A c] w fun e w' => ∃ v, e = .returned (.tuple #[v, .int .i64 (sealR u).2]) ∧ w'.ownsRow w.heap.size 5 1 v (sealR u).1.length (u8s (sealR u).1) ∧ Below w.heap.size w w' := by
  have hbn := below_new w (.cells #[.int .i64 u.kind, .int .i64 u.num, .slice A u.body.length c] 34)
  have hB0 := BlockIs.made w 34 #[.int .i64 u.kind, .int .i64 u.num, .slice A u.body.length c]
  have HR := Lib.hid (fun w' => rright_any w' u A c)
  by_cases hu : u.right
  · have Hr : Hid (sealR u = (sealB u, 0)) := Lib.hid (by unfold sealR; rw [if_pos hu])
    have Hl := Lib.hid (seal_len hu.2.2)
    have Hh := Lib.hid (hd8_len u)
    have Hbl := Lib.hid blank_len
    have hl := hu.2.2
    have hmk := madeBlank
    have Hu := Lib.hid hu
    have Hb := Lib.hid hb
    have hkb := hu.1
    have hnb := hu.2.1
    rw [decide_eq_true hu] at HR
    rw [Hr.out]
    unfold UnitV.val at *
    clear hb hu
    go_enter Tryz.func23, Tryz.ntmps23
    go_wp2_with fail
    refine (HR.out _).mono ?_
    rintro e w1 ⟨rfl, hb1⟩
    have B1 := Lib.hid (hB0.below hb1 hB0.lt)
    have Hb1 := Lib.hid (hbn.trans (hb1.mono hbn.size))
    have b2 := below_new w1 (.cells #[.slice none 0 0, .bool false] 79)
    have B2 := Lib.hid (B1.out.below b2 B1.out.lt)
    have N2 := Lib.hid (RefN.new w1)
    have hp1 := B1.out.lt
    have HP2 := Lib.hid (N2.out.put 1 u.kind (by decide) (by omega) (by show u.kind ≤ 255; omega) (by simp) (by decide))
    have c0 := B1.out.cell 0
    have c1 := B1.out.cell 1
    have c2 := B1.out.cell 2
    simp only [List.getElem?_toArray, List.getElem?_cons_zero, List.getElem?_cons_succ] at c0 c1 c2
    clear hB0 hbn hb1 HR
    go_wp2_with fail
    refine HP2.out.mono ?_
    rintro e w3 ⟨rfl, n3, b3⟩
    have B3 := Lib.hid (B2.out.below b3 hp1)
    have HP3 := Lib.hid (n3.put 6 u.num (by decide) (by omega) (by show u.num ≤ 1099511627776; omega) (by rw [List.length_append, le_len]; decide) (by decide))
    have Hb3 := Lib.hid (Hb1.out.trans ((b2.mono Hb1.out.size).trans (b3.mono Hb1.out.size)))
    have c1 := B3.out.cell 1
    have c2 := B3.out.cell 2
    simp only [List.getElem?_toArray, List.getElem?_cons_zero, List.getElem?_cons_succ] at c1 c2
    clear n3 b3 HP2 B2 N2 b2
    go_wp2_with fail
    refine HP3.out.mono ?_
    rintro e w4 ⟨rfl, n4, b4⟩
    have B4 := Lib.hid (B3.out.below b4 hp1)
    have HP4 := Lib.hid (n4.put 1 (u.body.length : Int) (by decide) (by omega) (by show (u.body.length : Int) ≤ 255; omega) (by rw [List.length_append, List.length_append, le_len, le_len]; decide) (by decide))
    have Hb4 := Lib.hid (Hb3.out.trans (b4.mono Hb1.out.size))
    have c2 := B4.out.cell 2
    simp only [List.getElem?_toArray, List.getElem?_cons_zero, List.getElem?_cons_succ] at c2
    clear n4 b4 HP3 B3
    go_wp2_with fail
    refine HP4.out.mono ?_
    rintro e w5 ⟨rfl, n5, b5⟩
    have B5 := Lib.hid (B4.out.below b5 hp1)
    have Hb5 := Lib.hid (Hb4.out.trans (b5.mono Hb1.out.size))
    have hh5 : ([] ++ le (1 : Int).toNat u.kind ++ le (6 : Int).toNat u.num ++ le (1 : Int).toNat (u.body.length : Int)) = u.hd8 := by rw [← head_bytes u Hu.out]; unfold fieldBytes; simp
    rw [hh5] at n5
    have b6 := below_new w5 (.cells (u8s blank256).toArray 5)
    have G6 := BlockIs.made w5 5 (u8s blank256).toArray
    have K6a : Hid (SealG w (w5.alloc (.cells (u8s blank256).toArray 5)) w.heap.size w5.heap.size u A c blank256) := Lib.hid ⟨B5.out.below b6 B5.out.lt, G6, Hb5.out.trans (b6.mono Hb5.out.size), Nat.ne_of_lt B5.out.lt, Hb5.out.size⟩
    obtain ⟨X5, cap5, d5, z5⟩ := (n5.on b6).bytes
    rw [Hh.out] at d5
    have Z5 := Lib.hid z5
    clear n5 b5 HP4 B4 B5 b6 G6 z5 hh5 Hb3 Hb4 B1
    generalize hgg : w5.heap.size = g at *
    go_wp2_with (first | (refine wpList_copy_u8 (by rfl) (.tmp 27) (.tmp 31) (by rfl) g 0 256 256 8 cap5 X5 (by rfl) (by rfl) blank256 u.hd8 K6a.out.out Z5.out Hh.out (by decide) (by rw [Hbl.out]; decide) ?_; intro w7 ho7 hg7 hs7; have K7a := Lib.hid (K6a.out.put ho7 hg7); clear ho7 hg7 hs7) | fail)
    have K7 : Hid (SealG w w7 w.heap.size g u A c (layB u.hd8 (u.body.take 0) 0)) := Lib.hid (by have := K7a.out; rw [show Go.splice blank256 0 u.hd8 = layB u.hd8 [] 0 from lay_head Hh.out] at this; exact this)
    clear K7a K6a Z5 d5 hgg c0 c1 c2 hmk
    go_loopg [6] u.body.length (fun gk i wx => ∃ k : Nat, gk = u.body.length - k ∧ k ≤ u.body.length ∧ i = .int .i64 (k : Int) ∧ Hid (SealG w wx w.heap.size g u A c (layB u.hd8 (u.body.take k) 0)))
    case atStart => exact ⟨0, rfl, Nat.zero_le _, rfl, K7⟩
    case round =>
      obtain ⟨k, hgk, hk, rfl, hK⟩ := hrel
      have Hgk := Lib.hid hgk
      have K := Lib.hid hK.out
      clear hgk hK
      obtain ⟨c0, c1, c2⟩ := K.out.cells
      by_cases hlt : (k : Int) < (u.body.length : Int)
      · have hltN : k < u.body.length := by omega
        have hbd := K.out.body Hb.out
        obtain ⟨b0, off, hA⟩ := hbd.some_ (by intro e; rw [e] at hltN; exact absurd hltN (Nat.not_lt_zero _))
        rw [hA] at c2 hbd
        have cb := hbd.one k hltN
        clear hA
        have Hll := Lib.hid (lay_len (hd := u.hd8) (body := u.body.take k) (e := 0) Hh.out (by rw [List.length_take]; omega))
        by_cases h20 : k < 20
        · have h20i : (k : Int) < 20 := by omega
          have d1 := K.out.out.cell (8 + k) ((layB u.hd8 (u.body.take k) 0).getD (8 + k) 0) (by rw [List.getD_eq_getElem?_getD, List.getElem?_eq_getElem (by rw [Hll.out]; omega)]; rfl)
          have f1 := BlockIs.free K.out.out (8 + k)
          have K2 : Hid (SealG w (wr.setCell ⟨g, 8 + k, none⟩ (.int .u8 (u.body.getD k 0))) w.heap.size g u A c (layB u.hd8 (u.body.take (k + 1)) 0)) := Lib.hid (by
            have h1 := K.out.set (8 + k) (u.body.getD k 0)
            have h2 := lay_set (hd := u.hd8) Hh.out hl k hltN
            rw [if_pos h20] at h2
            rw [h2] at h1
            exact h1)
          clear hbd
          generalize u.body.getD k 0 = z at cb K2
          generalize (layB u.hd8 (u.body.take k) 0).getD (8 + k) 0 = y at d1
          go_wp2_with fail
          go_roundg (u.body.length - (k + 1))
          case measure => rw [Hgk.out]; omega
          case rel => exact ⟨k + 1, rfl, by omega, by go_num, K2⟩
        · have h20i : ¬ (k : Int) < 20 := by omega
          have d1 := K.out.out.cell (16 + k) ((layB u.hd8 (u.body.take k) 0).getD (16 + k) 0) (by rw [List.getD_eq_getElem?_getD, List.getElem?_eq_getElem (by rw [Hll.out]; omega)]; rfl)
          have f1 := BlockIs.free K.out.out (16 + k)
          have K2 : Hid (SealG w (wr.setCell ⟨g, 16 + k, none⟩ (.int .u8 (u.body.getD k 0))) w.heap.size g u A c (layB u.hd8 (u.body.take (k + 1)) 0)) := Lib.hid (by
            have h1 := K.out.set (16 + k) (u.body.getD k 0)
            have h2 := lay_set (hd := u.hd8) Hh.out hl k hltN
            rw [if_neg h20] at h2
            rw [h2] at h1
            exact h1)
          clear hbd
          generalize u.body.getD k 0 = z at cb K2
          generalize (layB u.hd8 (u.body.take k) 0).getD (16 + k) 0 = y at d1
          go_wp2_with fail
          go_roundg (u.body.length - (k + 1))
          case measure => rw [Hgk.out]; omega
          case rel => exact ⟨k + 1, rfl, by omega, by go_num, K2⟩
      · obtain rfl : k = u.body.length := by omega
        rw [List.take_length] at K
        by_cases h20 : u.body.length ≤ 20
        · have h20i : ¬ (20 : Int) < (u.body.length : Int) := by omega
          have K6 : Hid (SealG w wr w.heap.size g u A c (preB u)) := Lib.hid (by
            have := K.out
            unfold preB
            rw [if_neg (by omega)]
            exact this)
          generalize wr = w6 at *
          have Hsz6 := Lib.hid (BlockIs.lt K6.out.out)
          have HX0 : ∃ x, Mx.sum (unitRow (preB u)) = x := ⟨_, rfl⟩
          obtain ⟨x, hx⟩ := HX0
          have hxl : (x.toNat : Int) < 4294967296 := by have := x.isLt; omega
          have HSm : Hid (le 4 (x.toNat : Int) = u.sumB) := Lib.hid (by rw [← hx, pre_row]; rfl)
          have N7 := Lib.hid (RefN.new w6)
          have K7 := Lib.hid (K6.out.on (below_new w6 (.cells #[.slice none 0 0, .bool false] 79)))
          have HU := Lib.hid (rsumOf_any _ (some ⟨g, 0, none⟩) (preB u) 256 (K7.out.out.reads (pre_bd Hu.out Hb.out.1)) (pre_len hl) (by decide) (by decide))
          rw [hx] at HU
          have Hpl := Lib.hid (pre_len hl)
          clear hx c0 c1
          go_wp2_with fail
          refine HU.out.mono ?_
          rintro e w8 ⟨rfl, hb8⟩
          have N8 := Lib.hid (N7.out.on hb8)
          have K8 := Lib.hid (K7.out.on hb8)
          have HP8 := Lib.hid (N8.out.put 4 (x.toNat : Int) (by decide) (by omega) (by show (x.toNat : Int) ≤ 4294967295; omega) (by simp) (by decide))
          clear hb8 HU
          go_wp2_with fail
          refine HP8.out.mono ?_
          rintro e w9 ⟨rfl, n9, b9⟩
          have hp6 := BlockIs.lt K6.out.box
          have K9 := Lib.hid (K8.out.low b9 hp6 Hsz6.out K6.out.below.size)
          obtain ⟨X9, cap9, d9, z9⟩ := n9.bytes
          rw [show (([] : List Int) ++ le (4 : Int).toNat (x.toNat : Int)) = le 4 (x.toNat : Int) from rfl] at d9 z9
          rw [le_len] at d9
          have Z9 := Lib.hid z9
          clear n9 b9 z9 HP8 N8 K8 N7 K7 hp6
          go_wp2_with fail
          go_region_held3 (fun w' => w'.cell? ⟨w6.heap.size, 0, none⟩ = some (.slice X9 4 cap9)) (first | exact d9 | exact m9) (first
            | (refine step_copy_u8 (by rfl) (.tmp 74) (.tmp 78) (by rfl) g 28 228 228 4 cap9 X9 (by rfl) (by rfl) (preB u) (le 4 (x.toNat : Int)) (by first | exact K9.out.out | exact K9.out.drew.out) (by first | exact Z9.out | exact Z9.out.drewN 1) (le_len _ _) (by decide) (by rw [Hpl.out]; decide) ?_; intro w10 ho10 hg10 hs10; have K10 := Lib.hid ((by first | exact K9.out.put ho10 hg10 | exact K9.out.drew.put ho10 hg10) : SealG w w10 w.heap.size g u A c (Go.splice (preB u) 28 (le 4 (x.toNat : Int)))); have m9 : w10.cell? ⟨w6.heap.size, 0, none⟩ = some (.slice X9 4 cap9) := (hg10.cell d9 (fun e => absurd (Option.some.inj (show some w6.heap.size = some g from e)) (by have := Hsz6.out; omega))); clear ho10 hg10 hs10)
            | fail)
          all_goals
            go_wp2_with fail
            go_ret2
            refine ⟨_, rfl, ?_, K10.out.below⟩
            have := K10.out.out
            rw [HSm.out, show Go.splice (preB u) 28 u.sumB = sealB u from pre_sum u] at this
            rw [Hl.out]
            exact own_bytesIs this Hl.out K10.out.lo (by decide)
        · have h20i : (20 : Int) < (u.body.length : Int) := by omega
          have Hl2 : Hid ((layB u.hd8 u.body 0).length = 256) := Lib.hid (lay_len Hh.out hl)
          have d255 := K.out.out.cell 255 ((layB u.hd8 u.body 0).getD 255 0) (by rw [List.getD_eq_getElem?_getD, List.getElem?_eq_getElem (by rw [Hl2.out]; decide)]; rfl)
          have f255 := BlockIs.free K.out.out 255
          have K6 : Hid (SealG w (wr.setCell ⟨g, 255, none⟩ (.int .u8 1)) w.heap.size g u A c (preB u)) := Lib.hid (by
            have h1 := K.out.set 255 1
            rw [lay_end Hh.out hl] at h1
            unfold preB
            rw [if_pos (by omega)]
            exact h1)
          have Hsz0 := Lib.hid (show (wr.setCell ⟨g, 255, none⟩ (.int .u8 1)).heap.size = wr.heap.size by simp [World.setCell])
          obtain ⟨w6, hw6⟩ : ∃ w6, wr.setCell ⟨g, 255, none⟩ (.int .u8 1) = w6 := ⟨_, rfl⟩
          rw [hw6] at K6 Hsz0
          have Hw6 := Lib.hid hw6
          clear hw6
          have Hsz6 := Lib.hid (BlockIs.lt K6.out.out)
          have HX0 : ∃ x, Mx.sum (unitRow (preB u)) = x := ⟨_, rfl⟩
          obtain ⟨x, hx⟩ := HX0
          have hxl : (x.toNat : Int) < 4294967296 := by have := x.isLt; omega
          have HSm : Hid (le 4 (x.toNat : Int) = u.sumB) := Lib.hid (by rw [← hx, pre_row]; rfl)
          have N7 := Lib.hid (RefN.new w6)
          have K7 := Lib.hid (K6.out.on (below_new w6 (.cells #[.slice none 0 0, .bool false] 79)))
          have HU := Lib.hid (rsumOf_any _ (some ⟨g, 0, none⟩) (preB u) 256 (K7.out.out.reads (pre_bd Hu.out Hb.out.1)) (pre_len hl) (by decide) (by decide))
          rw [hx] at HU
          have Hpl := Lib.hid (pre_len hl)
          clear hx c0 c1
          go_wp2_with fail
          rw [Hw6.out]
          try rw [← Hsz0.out]
          refine HU.out.mono ?_
          rintro e w8 ⟨rfl, hb8⟩
          have N8 := Lib.hid (N7.out.on hb8)
          have K8 := Lib.hid (K7.out.on hb8)
          have HP8 := Lib.hid (N8.out.put 4 (x.toNat : Int) (by decide) (by omega) (by show (x.toNat : Int) ≤ 4294967295; omega) (by simp) (by decide))
          clear hb8 HU
          go_wp2_with fail
          refine HP8.out.mono ?_
          rintro e w9 ⟨rfl, n9, b9⟩
          have hp6 := BlockIs.lt K6.out.box
          have K9 := Lib.hid (K8.out.low b9 hp6 Hsz6.out K6.out.below.size)
          obtain ⟨X9, cap9, d9, z9⟩ := n9.bytes
          rw [show (([] : List Int) ++ le (4 : Int).toNat (x.toNat : Int)) = le 4 (x.toNat : Int) from rfl] at d9 z9
          rw [le_len] at d9
          have Z9 := Lib.hid z9
          clear n9 b9 z9 HP8 N8 K8 N7 K7 hp6
          go_wp2_with fail
          go_region_held3 (fun w' => w'.cell? ⟨w6.heap.size, 0, none⟩ = some (.slice X9 4 cap9)) (first | exact d9 | exact m9) (first
            | (refine step_copy_u8 (by rfl) (.tmp 74) (.tmp 78) (by rfl) g 28 228 228 4 cap9 X9 (by rfl) (by rfl) (preB u) (le 4 (x.toNat : Int)) (by first | exact K9.out.out | exact K9.out.drew.out) (by first | exact Z9.out | exact Z9.out.drewN 1) (le_len _ _) (by decide) (by rw [Hpl.out]; decide) ?_; intro w10 ho10 hg10 hs10; have K10 := Lib.hid ((by first | exact K9.out.put ho10 hg10 | exact K9.out.drew.put ho10 hg10) : SealG w w10 w.heap.size g u A c (Go.splice (preB u) 28 (le 4 (x.toNat : Int)))); have m9 : w10.cell? ⟨w6.heap.size, 0, none⟩ = some (.slice X9 4 cap9) := (hg10.cell d9 (fun e => absurd (Option.some.inj (show some w6.heap.size = some g from e)) (by have := Hsz6.out; omega))); clear ho10 hg10 hs10)
            | fail)
          all_goals
            go_wp2_with fail
            go_ret2
            refine ⟨_, rfl, ?_, K10.out.below⟩
            have := K10.out.out
            rw [HSm.out, show Go.splice (preB u) 28 u.sumB = sealB u from pre_sum u] at this
            rw [Hl.out]
            exact own_bytesIs this Hl.out K10.out.lo (by decide)
  · have Hr : Hid (sealR u = ([], 2)) := Lib.hid (by unfold sealR; rw [if_neg hu])
    rw [decide_eq_false hu] at HR
    rw [Hr.out]
    unfold UnitV.val at *
    clear hb hu hB0
    go_enter Tryz.func23, Tryz.ntmps23
    go_wp2_with fail
    refine (HR.out _).mono ?_
    rintro e w1 ⟨rfl, hb1⟩
    have Hb1 := Lib.hid (hbn.trans (hb1.mono hbn.size))
    clear hb1 hbn
    go_wp2_with fail
    go_ret2
    exact ⟨_, rfl, World.ownsRow_nil _ _ _ _, Hb1.out⟩
end Go.Proofs.YtpdfmpegcejmkaaGreatDoor
namespace Go.Proofs.YtpdfmpegcejmkaaGreatDoor
open Go.RowKit
def sameU (u v : UnitV) : Bool := (u.kind == v.kind) && ((u.num == v.num) && sameB u.body v.body)
theorem sameU_iff {u v : UnitV} : sameU u v = true ↔ u = v := by
  obtain ⟨k, n, b⟩ := u
  obtain ⟨k', n', b'⟩ := v
  unfold sameU sameB
  simp
theorem sameU_self (u : UnitV) : sameU u u = true := sameU_iff.2 rfl
set_option maxRecDepth 100000 in
set_option maxHeartbeats 2000000 in
theorem sameUnit_any (w : World) (u v : UnitV) (A B : Option Addr) (c d : Nat) (ha : BytesAt w A u.body) (hb : BytesAt w B v.body) (hl : u.body.length ≤ 9223372036854775807) :
    Calls Tryz.prog 16 #[u.val A c, v.val B d] w fun e w' => e = .returned (.bool (sameU u v)) ∧ Below w.heap.size w w' := by
  have hb1 := below_new w (.cells #[.int .i64 u.kind, .int .i64 u.num, .slice A u.body.length c] 34)
  have hb2 := hb1.alloc hb1.size (.cells #[.int .i64 v.kind, .int .i64 v.num, .slice B v.body.length d] 34)
  have HS := Lib.hid (sameBytes_any u.body v.body A B c d _ (ha.below hb2) (hb.below hb2) hl)
  have H2 := Lib.hid hb2
  unfold UnitV.val sameU
  clear ha hb hb1 hb2
  by_cases hk : u.kind = v.kind
  · by_cases hn : u.num = v.num
    · have e1 : (u.kind == v.kind) = true := beq_iff_eq.2 hk
      have e2 : (u.num == v.num) = true := beq_iff_eq.2 hn
      rw [e1, e2]
      clear hk hn
      go_enter Tryz.func16, Tryz.ntmps16
      go_wp2_with fail
      refine HS.out.mono ?_
      rintro e w' ⟨rfl, n, rfl⟩
      go_wp2_with fail
      go_ret
      exact ⟨ret_bool (by simp), drewN_below H2.out n⟩
    · have e1 : (u.kind == v.kind) = true := beq_iff_eq.2 hk
      have e2 : (u.num == v.num) = false := beq_eq_false_iff_ne.2 hn
      rw [e1, e2]
      clear hk hn
      go_enter Tryz.func16, Tryz.ntmps16
      go_wp2_with fail
      go_ret
      exact ⟨ret_bool (by simp), H2.out⟩
  · have e1 : (u.kind == v.kind) = false := beq_eq_false_iff_ne.2 hk
    rw [e1]
    clear hk
    go_enter Tryz.func16, Tryz.ntmps16
    go_wp2_with fail
    go_ret
    exact ⟨ret_bool (by simp), H2.out⟩
theorem bytesAt_marked (W : World) (zs : List Int) (m : Nat × Nat) (hr : ∀ z ∈ zs, 0 ≤ z ∧ z < 256) : BytesAt (W.alloc (.cells (u8s zs).toArray 5 m)) (some ⟨W.heap.size, 0, none⟩) zs := by
  refine bytesAt_cells hr (fun i hi => ?_)
  rw [World.cell?_alloc_mark, Nat.zero_add, List.getElem?_toArray]
  unfold u8s
  rw [List.getElem?_map, List.getD_eq_getElem?_getD, List.getElem?_eq_getElem hi]; rfl
end Go.Proofs.YtpdfmpegcejmkaaGreatDoor
namespace Go.Proofs.YtpdfmpegcejmkaaGreatDoor
open Go.RowKit
theorem own_at {w : World} {B n : Nat} {v : Value} {xs : List Int} (h : w.ownsRow B 5 1 v n (u8s xs)) (hn : 0 < n) (hx : ∀ z ∈ xs, 0 ≤ z ∧ z < 256) : ∃ g cap, v = .slice (some ⟨g, 0, none⟩) n cap ∧ n ≤ cap ∧ cap ≤ 9223372036854775807 ∧ B ≤ g ∧ g < w.heap.size ∧ BytesAt w (some ⟨g, 0, none⟩) xs := by
  obtain ⟨g, cap, rfl, hB, hlt, hc, hm⟩ := own_form h hn
  exact ⟨g, cap, rfl, hc, by unfold maxLen at hm; omega, hB, hlt, own_reads h hx⟩
end Go.Proofs.YtpdfmpegcejmkaaGreatDoor
