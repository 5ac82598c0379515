/- Law 02, CodeEnds: rows and texts about their ends. -/
import Derived.Test.YtifoiiaddcgngaaGreatDoorLaw02PvLit
import Derived.Test.YtifoiiaddcgngaaGreatDoorLaw02PutsLaw
import Derived.Test.YtifoiiaddcgngaaGreatDoorLaw02Gets
namespace Go.Proofs.YtifoiiaddcgngaaGreatDoor
open Go.RowKit
theorem zeros_ints (W : World) (B n : Nat) (v : Value) (h : W.ownsRow B 3 1 v n (i64s (List.replicate n 0))) : ∃ X cap, v = .slice X n cap ∧ IntsAt W X (List.replicate n 0) ∧ (X = none → cap = 0) := by
  obtain ⟨X, cap, rfl, _, _⟩ := own_slice h
  exact ⟨X, cap, rfl, own_ints h (fun z hz => by obtain rfl := List.eq_of_mem_replicate hz; omega), fun e => own_nil h e⟩
theorem u8s_rep (n : Nat) : u8s (List.replicate n 0) = List.replicate n (.int .u8 0) := by unfold u8s; rw [List.map_replicate]
/-- So many noughts, laid anew: bytes of this length. -/
theorem zeros_bytes {w : World} {B n : Nat} {v : Value} (h : w.ownsRow B 5 1 v n (List.replicate n (.int .u8 0))) : ∃ X cap zs, v = .slice X n cap ∧ zs.length = n ∧ BytesAt w X zs ∧ (X = none → cap = 0) := by
  obtain ⟨X, cap, rfl, _, _⟩ := own_slice h
  rw [← u8s_rep] at h
  exact ⟨X, cap, _, rfl, List.length_replicate, own_reads h (fun z hz => by obtain rfl := List.eq_of_mem_replicate hz; omega), fun e => own_nil h e⟩
theorem textB_long {zs : List Int} (h : zs.length = 65535) : putO (some []) (textB zs) = some (le 2 65535 ++ zs) := by
  unfold textB; rw [if_pos (by omega), h]; rfl
theorem textB_more {zs : List Int} (h : zs.length = 65536) (s : Option (List Int)) : putO s (textB zs) = none := by
  unfold textB; rw [if_neg (by omega)]; exact putO_none s
set_option maxRecDepth 100000 in
set_option maxHeartbeats 4000000 in
theorem long_any (σ : Sen) (w : World) (hG : GlAt σ w) :
    Calls Tryz.prog 7 #[] w fun e w' => e = .returned (.bool true) ∧ Below w.heap.size w w' := by
  obtain ⟨i0, hi, hz0, hz1, hz2⟩ := info_parts infoInt
  obtain ⟨i8, hi8, hy0, hy1, hy2⟩ := info_parts infoByte
  go_enter Tryz.func7, Tryz.ntmps7
  go_wp2_with fail
  go_loopg [1] 4 (fun gk i wx => ∃ j : Nat, gk = 4 - j ∧ j ≤ 4 ∧ i = .int .i64 (254 + (j : Int)) ∧ Hid (Below w.heap.size w wx))
  case atStart => exact ⟨0, rfl, by omega, rfl, Lib.hid (Below.refl _ _)⟩
  case round =>
    obtain ⟨j, hgj, hj, rfl, hb⟩ := hrel
    have Hgj := Lib.hid hgj; clear hgj
    have hsz := hb.out.size
    by_cases hlt : j < 4
    · go_wp2_with (at_make; refine wpList_make_full _ rfl _ _ _ rfl wr.heap.size 3 i0 (.int .i64 0) 1 Tryz.underlying22 hi hz0 hz1 .i64 .i64 _ _ (254 + j) rfl (by go_num) (by go_num) rfl (by rw [hz2]; omega) (by unfold maxLen; omega) (Nat.le_refl _) ?_; intro w1 hown1 hgrow1)
      have hown2 : w1.ownsRow wr.heap.size 3 1 (.slice (some ⟨wr.heap.size, 0, none⟩) (254 + j) (254 + j)) (254 + j) (i64s (List.replicate (254 + j) 0)) := own_same hown1 rfl (by rw [Nat.mul_one, show i64s (List.replicate (254 + j) 0) = List.replicate (254 + j) (.int .i64 0) by simp [i64s]]; exact toList_madeCells_one _ _)
      have hints := own_ints hown2 (fun z hz => by obtain rfl := List.eq_of_mem_replicate hz; omega)
      have hb1 := Lib.hid (hb.out.trans (((Below.refl wr.heap.size wr).grown hgrow1 (Nat.le_refl _) (fun k e => by cases e)).mono hsz))
      have hpok : ∀ p ∈ [numsV 2 0 (some ⟨wr.heap.size, 0, none⟩) (List.replicate (254 + j) 0) (254 + j)], p.ok w1 := fun p hp => by
        obtain rfl := List.mem_singleton.1 hp
        exact nums_ok ⟨by decide, by decide⟩ i64zr hints (by rw [List.length_replicate]; omega)
      have hnn : ∀ p ∈ [numsV 2 0 (some ⟨wr.heap.size, 0, none⟩) (List.replicate (254 + j) 0) (254 + j)], p.nA = none → p.nc = 0 := fun p hp e => by
        obtain rfl := List.mem_singleton.1 hp
        cases e
      have htt : tot [numsV 2 0 (some ⟨wr.heap.size, 0, none⟩) (List.replicate (254 + j) 0) (254 + j)] ≤ 30000 := by
        unfold tot numsV noEnt; simp; omega
      have hPV := pv_lit w1 _ #[.int .i64 2, .int .i64 0, .slice (some ⟨wr.heap.size, 0, none⟩) (254 + j) (254 + j), .slice none 0 0, .int .i64 0, .int .i64 0, .int .i64 0, .slice none 0 0, .int .i64 0] hpok (by simp [numsV, noEnt, PartV.cells])
      have HP := Lib.hid (puts_any _ _ _ 1 hPV hnn htt)
      have hbn := below_new w1 (.cells #[.int .i64 2, .int .i64 0, .slice (some ⟨wr.heap.size, 0, none⟩) (254 + j) (254 + j), .slice none 0 0, .int .i64 0, .int .i64 0, .int .i64 0, .slice none 0 0, .int .i64 0] 30)
      have HB2 := Lib.hid (hb1.out.trans (hbn.mono hb1.out.size))
      clear hown1 hown2 hgrow1 hints hpok hnn htt hPV hbn
      refine HP.out.mono ?_
      rintro e w2 ⟨v, rfl, ⟨X, cp, rfl, hown, hbd, hln⟩, hb2⟩
      generalize (encTo [numsV 2 0 (some ⟨wr.heap.size, 0, none⟩) (List.replicate (254 + j) 0) (254 + j)] _).getD [] = y at *
      have HB3 := Lib.hid (HB2.out.trans (hb2.mono HB2.out.size))
      have HO := Lib.hid (And.intro hown hbd)
      clear hb2 HP hown hbd
      go_wp2_with fail
      have hPV := pv_lit w2 [askV 2 0 (254 + (j : Int))] #[.int .i64 2, .int .i64 0, .slice none 0 0, .slice none 0 0, .int .i64 0, .int .i64 0, .int .i64 0, .slice none 0 0, .int .i64 (254 + (j : Int))] (fun p hp => by
        obtain rfl := List.mem_singleton.1 hp
        exact ask_ok ⟨by decide, by decide⟩ i64zr ⟨by omega, by omega⟩) (by simp [askV, noEnt, PartV.cells])
      have hbn := below_new w2 (.cells #[.int .i64 2, .int .i64 0, .slice none 0 0, .slice none 0 0, .int .i64 0, .int .i64 0, .int .i64 0, .slice none 0 0, .int .i64 (254 + (j : Int))] 30)
      have hcap := own_slice HO.out.1
      obtain ⟨X', cp', e', hc1, hc2⟩ := hcap
      obtain ⟨rfl, rfl⟩ : X = X' ∧ cp = cp' := by simpa using e'
      unfold maxLen at hc2
      have HBG := Lib.hid (HB3.out.trans (hbn.mono HB3.out.size))
      refine (gets_any σ _ (hG.below HBG.out) X y cp ((own_reads HO.out.1 HO.out.2).below hbn) (by omega) (own_nil HO.out.1) ⟨hc1, by omega⟩ _ _ 1 hPV (by show (1 : Nat) ≤ 140737488351232; decide)).mono ?_
      rintro e w3 ⟨rfl, hb3⟩
      have HB4 := Lib.hid (HBG.out.trans (hb3.mono HBG.out.size))
      clear hb3 hPV hbn e'
      go_wp2_with fail
      go_roundg (4 - (j + 1))
      case measure => rw [Hgj.out]; omega
      case rel => exact ⟨j + 1, rfl, by omega, by go_num, HB4⟩
    · obtain rfl : j = 4 := by omega
      clear hlt hj Hgj
      have hwn := wr_new wr
      have hbn := below_new wr (.cells #[.pointer none, .bool false] 38)
      have HW := Lib.hid (And.intro hwn hbn)
      clear hwn hbn
      go_upto_region 8 with fail
      generalize wr.alloc _ = w0 at *
      go_wp2_with (at_make; refine wpList_make_full _ rfl _ _ _ rfl w0.heap.size 5 i8 (.int .u8 0) 1 Tryz.underlying23 hi8 hy0 hy1 .i64 .i64 _ _ 65535 rfl rfl rfl rfl (by rw [hy2]; omega) (by unfold maxLen; omega) (Nat.le_refl _) ?_; intro w1 hown1 hgrow1)
      have hown2 : w1.ownsRow w0.heap.size 5 1 (.slice (some ⟨w0.heap.size, 0, none⟩) 65535 65535) 65535 (List.replicate 65535 (.int .u8 0)) := own_same hown1 rfl (by rw [Nat.mul_one]; exact toList_madeCells_one _ _)
      obtain ⟨X, cap, zs, e, hzl, hz, hn⟩ := zeros_bytes hown2
      obtain ⟨rfl, rfl⟩ : some (⟨w0.heap.size, 0, none⟩ : Addr) = X ∧ 65535 = cap := by simpa using e
      have hW1 := HW.out.1.kept (grown_below ((Below.refl w0.heap.size w0).grown hgrow1 (Nat.le_refl _) (fun k e => by cases e)) none) (by simp) (fun _ h => h.elim)
      have hB1 := HW.out.2.trans (((Below.refl w0.heap.size w0).grown hgrow1 (Nat.le_refl _) (fun k e => by cases e)).mono HW.out.2.size)
      have hT := wtext_any w1 _ wr.heap.size _ hW1 zs (some ⟨w0.heap.size, 0, none⟩) 65535 hz (by omega) hn
      rw [hzl, textB_long hzl] at hT
      have hyl : (le 2 65535 ++ zs).length = 65537 := by rw [List.length_append, le_len, hzl]
      generalize le 2 65535 ++ zs = y at *
      have HT := Lib.hid hT
      have HY := Lib.hid hyl
      have HB1 := Lib.hid (And.intro (hb.out.trans (hB1.mono hb.out.size)) hW1)
      have hg0 : wr.heap.size < w0.heap.size := HW.out.1.lt
      have hgr1 := hgrow1.size
      clear hown1 hown2 hgrow1 e hzl hz hn hW1 hB1 hT hyl
      refine HT.out.mono ?_
      rintro e w2 ⟨rfl, hP2⟩
      have HP2 := Lib.hid hP2
      have HW2 := Lib.hid (wbytes_all w2 _ wr.heap.size _ hP2.wr (by show y.length ≤ _; rw [HY.out]; decide))
      have HB2 := Lib.hid (below_grown HB1.out.1 hP2.fr HB1.out.1.size hsz)
      clear hP2
      go_wp2_with fail
      refine HW2.out.mono ?_
      rintro e w3 ⟨v, rfl, hown, hb3⟩
      rw [show ((some y).getD []) = y from rfl, HY.out] at hown
      obtain ⟨X3, c3, rfl, _, _⟩ := own_slice hown
      have HB3 := Lib.hid (HB2.out.trans (hb3.mono HB2.out.size))
      have HP3 := Lib.hid (HP2.out.wr.below hb3)
      clear hown hb3
      go_wp2_with (at_make; refine wpList_make_full _ rfl _ _ _ rfl w3.heap.size 5 i8 (.int .u8 0) 1 Tryz.underlying23 hi8 hy0 hy1 .i64 .i64 _ _ 65536 rfl rfl rfl rfl (by rw [hy2]; omega) (by unfold maxLen; omega) (Nat.le_refl _) ?_; intro w4 hown1 hgrow1)
      have hown2 : w4.ownsRow w3.heap.size 5 1 (.slice (some ⟨w3.heap.size, 0, none⟩) 65536 65536) 65536 (List.replicate 65536 (.int .u8 0)) := own_same hown1 rfl (by rw [Nat.mul_one]; exact toList_madeCells_one _ _)
      obtain ⟨X4, cap4, zs4, e, hzl, hz, hn⟩ := zeros_bytes hown2
      obtain ⟨rfl, rfl⟩ : some (⟨w3.heap.size, 0, none⟩ : Addr) = X4 ∧ 65536 = cap4 := by simpa using e
      have hb4 := (Below.refl w3.heap.size w3).grown hgrow1 (Nat.le_refl _) (fun k e => by cases e)
      have hW4 := HP3.out.below hb4
      have HB4 := Lib.hid (HB3.out.trans (hb4.mono HB3.out.size))
      have hT := wtext_any w4 _ wr.heap.size _ hW4 zs4 (some ⟨w3.heap.size, 0, none⟩) 65536 hz (by omega) hn
      rw [hzl, textB_more hzl] at hT
      have HT4 := Lib.hid hT
      clear hown1 hown2 hgrow1 e hzl hz hn hW4 hT hb4
      refine HT4.out.mono ?_
      rintro e w5 ⟨rfl, hP5⟩
      have HW5 := Lib.hid (wbytes_all w5 _ wr.heap.size _ hP5.wr (Nat.zero_le _))
      have HB5 := Lib.hid (below_grown HB4.out hP5.fr HB4.out.size hsz)
      clear hP5
      go_wp2_with fail
      refine HW5.out.mono ?_
      rintro e w6 ⟨v, rfl, hown, hb6⟩
      rw [show ((none : Option (List Int)).getD []) = [] from rfl] at hown
      obtain ⟨X6, c6, rfl, _, _⟩ := own_slice hown
      have HB6 := Lib.hid (HB5.out.trans (hb6.mono HB5.out.size))
      clear hown hb6
      go_wp2_with fail
      go_ret
      exact ⟨rfl, HB6.out⟩
end Go.Proofs.YtifoiiaddcgngaaGreatDoor
