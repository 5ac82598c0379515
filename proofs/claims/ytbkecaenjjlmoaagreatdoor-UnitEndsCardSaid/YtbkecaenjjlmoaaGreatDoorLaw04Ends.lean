/- UnitEnds: the law's walk. -/
import Derived.Test.YtbkecaenjjlmoaaGreatDoorLaw04Seals
import Derived.Test.YtbkecaenjjlmoaaGreatDoorLaw04EndsA
namespace Go.Proofs.YtbkecaenjjlmoaaGreatDoor
open Go.RowKit
set_option maxRecDepth 100000 in
set_option maxHeartbeats 32000000 in
theorem unitEnds_any (σ : Sen) (τ : SenU) (w : World) (hC : GlAt σ w) (hU : GlU τ w) :
    Calls Tryz.prog 4 #[] w fun e w' => e = .returned (.bool true) ∧ Below w.heap.size w w' := by
  have HG := Lib.hid (And.intro hC hU)
  clear hC hU
  go_enter Tryz.func4, Tryz.ntmps4
  have hmk := made242 w
  have R0 := Lib.hid (rowB_made w 242 (by decide))
  go_wp2_with fail
  clear hmk
  go_loopg [2] 242 (fun gk i wx => ∃ k : Nat, gk = 242 - k ∧ k ≤ 242 ∧ i = .int .i64 (k : Int) ∧ Hid (RowB w wx w.heap.size 242 242))
  case atStart => exact ⟨0, rfl, Nat.zero_le _, rfl, R0⟩
  case round =>
    obtain ⟨k, hgk, hk, rfl, hR⟩ := hrel
    have Hgk := Lib.hid hgk
    clear hgk R0
    by_cases hlt : (k : Int) < 242
    · obtain ⟨⟨z, c0⟩, f0⟩ := hR.out.cell k (by omega)
      go_wp2_with fail
      go_roundg (242 - (k + 1))
      case measure => rw [Hgk.out]; omega
      case rel => exact ⟨k + 1, rfl, by omega, by go_num, Lib.hid (hR.out.set k _ (by first | exact u8_bd _ | omega))⟩
    · obtain rfl : k = 242 := by omega
      clear Hgk hlt hk
      generalize wr = w1 at *
      have hb2 := below_new w1 (.cells (i64s sizes11).toArray 3)
      have hP2 := BlockIs.made w1 3 (i64s sizes11).toArray
      have hb3 := hb2.alloc hb2.size (.cells (i64s nums6).toArray 3)
      have hP2b := hP2.below (below_new _ (.cells (i64s nums6).toArray 3)) hP2.lt
      have hP3 := BlockIs.made (w1.alloc (.cells (i64s sizes11).toArray 3)) 3 (i64s nums6).toArray
      rw [World.size_alloc] at hP3
      have H3 := Lib.hid (And.intro hP2b (And.intro hP3 (And.intro (hR.out.below hb3) (hR.out.bl.trans (hb3.mono hR.out.bl.size)))))
      clear hb2 hP2 hb3 hP2b hP3
      go_wp2_with fail
      obtain ⟨w3, hw3⟩ : ∃ w3, (w1.alloc (.cells (i64s sizes11).toArray 3)).alloc (.cells (i64s nums6).toArray 3) = w3 := ⟨_, rfl⟩
      rw [hw3] at H3
      obtain ⟨gs, hgs⟩ : ∃ gs, w1.heap.size = gs := ⟨_, rfl⟩
      rw [hgs] at H3
      have Hw3 := Lib.hid (And.intro hw3 hgs)
      clear hw3 hgs hR
      have hwe : (w1.alloc (.cells #[.int .i64 0, .int .i64 1, .int .i64 19, .int .i64 20, .int .i64 21, .int .i64 31, .int .i64 219, .int .i64 238, .int .i64 239, .int .i64 240, .int .i64 242] 3)).alloc (.cells #[.int .i64 (-1), .int .i64 0, .int .i64 1, .int .i64 1099511627776, .int .i64 1099511627777, .int .i64 140737488355328] 3) = w3 := Hw3.out.1
      rw [hwe, Hw3.out.2]
      clear hwe
      go_loopg [5] 11 (fun gk x wx => ∃ (a : Nat) (kd : Int), gk = 11 - a ∧ a ≤ 11 ∧ x = .int .i64 kd ∧ kd = (a : Int) - 1 ∧ Hid (Below w3.heap.size w3 wx))
      case atStart => exact ⟨0, -1, rfl, by omega, rfl, rfl, Lib.hid (Below.refl _ _)⟩
      case round =>
        obtain ⟨a, kd, hga, ha, rfl, hkd, hb⟩ := hrel
        have Hga := Lib.hid hga
        have Hkd := Lib.hid hkd
        by_cases hlta : a < 11
        · have hk0 : -1 ≤ kd := by omega
          have hk1 : kd < 10 := by omega
          clear hga hkd
          go_wp2_with fail
          go_loopg [6] 11 (fun gk x wx => ∃ i : Nat, gk = 11 - i ∧ i ≤ 11 ∧ x = .int .i64 (i : Int) ∧ Hid (Below w3.heap.size w3 wx))
          case atStart => exact ⟨0, rfl, by omega, rfl, hb⟩
          case round =>
            clear hb
            obtain ⟨i, hgi, hi, rfl, hb⟩ := hrel
            have Hgi := Lib.hid hgi; clear hgi
            by_cases hlti : (i : Int) < 11
            · obtain ⟨m, _, hm242, hsz⟩ := sizes_at i (by omega)
              obtain ⟨num, hnm⟩ := nums_at ((i + a) % 6) (Nat.mod_lt _ (by decide))
              have hj6 : (i + a) % 6 < 6 := Nat.mod_lt _ (by decide)
              have hrem : ((i : Int) + kd + 1).tmod 6 = (((i + a) % 6 : Nat) : Int) := by
                have e : (i : Int) + kd + 1 = ((i + a : Nat) : Int) := by have := Hkd.out; omega
                rw [e, Int.tmod_eq_emod_of_nonneg (by omega)]
                omega
              obtain ⟨j, hj⟩ : ∃ j, (i + a) % 6 = j := ⟨_, rfl⟩
              rw [hj] at hnm hj6 hrem
              have cs : wr.cell? ⟨gs, i, none⟩ = some (.int .i64 (m : Int)) := cell_below ((H3.out.1.cell i).trans hsz) hb.out
              have cn : wr.cell? ⟨gs + 1, j, none⟩ = some (.int .i64 num) := cell_below ((H3.out.2.1.cell j).trans hnm) hb.out
              have hsl : ∀ W, (Instr.slice 22 (.slice (some ⟨w.heap.size, 0, none⟩) 242 242) none (some (.int .i64 (m : Int))) none).run Tryz.prog W = .ok (.slice (some ⟨w.heap.size, 0, none⟩) m 242) W := fun W => cut_low (some ⟨w.heap.size, 0, none⟩) 242 m 242 W hm242 (by decide)
              have cs2 := cell_below cs (below_new wr (.cells #[.int .i64 0, .int .i64 0, .slice none 0 0] 27))
              have cn2 := cell_below cn (below_new wr (.cells #[.int .i64 0, .int .i64 0, .slice none 0 0] 27))
              have hw1 : IntKind.i64.wrap ((i : Int) + kd) = (i : Int) + kd := IntWalk.i64_in _ (by omega)
              have hw2 : IntKind.i64.wrap ((i : Int) + kd + 1) = (i : Int) + kd + 1 := IntWalk.i64_in _ (by omega)
              have Hm := Lib.hid hm242
              clear hsz hnm hj
              go_wp2_with fail
              go_region
              all_goals
                clear cs cn cs2 cn2 hsl hrem hw1 hw2 hj6
                obtain ⟨zs, zl, zb, _, _⟩ := H3.out.2.2.1.reads
                have hbu := (below_new wr (.cells #[.int .i64 kd, .int .i64 num, .slice (some ⟨w.heap.size, 0, none⟩) m 242] 27)).drew
                have hP5 := (BlockIs.made wr 27 #[.int .i64 kd, .int .i64 num, .slice (some ⟨w.heap.size, 0, none⟩) m 242]).below (Below.refl _ _).drew (BlockIs.made wr 27 #[.int .i64 kd, .int .i64 num, .slice (some ⟨w.heap.size, 0, none⟩) m 242]).lt
                have hB5 := hb.out.trans (hbu.mono hb.out.size)
                have hbl : (zs.take m).length = m := by rw [List.length_take, zl]; have := Hm.out; omega
                have hq3 : w3.heap.size ≤ wr.heap.size := hb.out.size
                generalize (wr.alloc (.cells #[.int .i64 kd, .int .i64 num, .slice (some ⟨w.heap.size, 0, none⟩) m 242] 27)).drew = w5 at *
                obtain ⟨q, hq⟩ : ∃ q, wr.heap.size = q := ⟨_, rfl⟩
                rw [hq] at hP5 hq3 ⊢
                have P5 := Lib.hid (And.intro hP5 hq3)
                have B5 := Lib.hid (H3.out.2.2.2.trans (hB5.mono H3.out.2.2.2.size))
                have C5 := Lib.hid hB5
                have HZ := Lib.hid (front_reads (k := m) zb)
                have Hbl := Lib.hid hbl
                generalize zs.take m = bd at *
                have HSl := unitSeals_any σ τ w5 (HG.out.1.below B5.out) (HG.out.2.below B5.out) ⟨kd, num, bd⟩ (some ⟨w.heap.size, 0, none⟩) 242 (HZ.out.below C5.out) (by show bd.length ≤ 242; rw [Hbl.out]; exact Hm.out) (by decide) (fun e => by cases e)
                unfold UnitV.val at HSl
                simp only at HSl
                rw [Hbl.out] at HSl
                have HSl := Lib.hid HSl
                obtain ⟨p0, p1, p2, p3, p4, p5⟩ := unit_cells hP5
                clear hP5 hq3 hB5 hbu hq hbl zb zl hb
                go_wp2_with fail
                refine HSl.out.mono ?_
                rintro e w6 ⟨rfl, hb6⟩
                have P6 := Lib.hid (P5.out.1.below hb6 P5.out.1.lt)
                have C6 := Lib.hid (C5.out.trans (hb6.mono C5.out.size))
                clear hb6 p0 p1 p2 p3 p4 p5 HSl
                obtain ⟨p0, p1, p2, p3, p4, p5⟩ := unit_cells P6.out
                go_wp2_with fail
                clear p0 p1 p2 p3 p4 p5
                have C7 := Lib.hid (below_grown C6.out (grown_at (World.grownBy.refl w6 (some q)) 1 (.int .i64 (kd + 1))) C6.out.size P5.out.2)
                generalize w6.setCell ⟨q, 1, none⟩ (.int .i64 (kd + 1)) = w7 at *
                have HSr := rseal_any w7 ⟨kd, kd + 1, bd⟩ (some ⟨w.heap.size, 0, none⟩) 242 (HZ.out.below C7.out) (by show bd.length ≤ 242; rw [Hbl.out]; exact Hm.out) (by decide)
                unfold UnitV.val at HSr
                simp only at HSr
                rw [Hbl.out] at HSr
                rcases sealR_two ⟨kd, kd + 1, bd⟩ HZ.out.1 with ⟨ys, hys, hyl, hyb⟩ | hys
                · rw [hys] at HSr
                  simp only at HSr
                  rw [hyl] at HSr
                  have HSr := Lib.hid HSr
                  have Hy := Lib.hid (And.intro hyl hyb)
                  clear hys hyl hyb
                  refine HSr.out.mono ?_
                  rintro e w8 ⟨v, rfl, ho, hb8⟩
                  obtain ⟨gb, cap, rfl, _, _, _, _⟩ := own_form ho (by decide)
                  obtain ⟨X, hX⟩ : ∃ X : Option Addr, some (⟨gb, 0, none⟩ : Addr) = X := ⟨_, rfl⟩
                  have HX := Lib.hid hX
                  rw [hX] at ho ⊢
                  have ho : w8.ownsRow w7.heap.size 5 1 (.slice X 256 cap) 256 (u8s ys) := ho
                  clear hX
                  have Y8 := Lib.hid (show RowY w3 w8 X cap 256 ys from ⟨Hy.out.1, own_mono ho C7.out.size, C7.out.trans (hb8.mono C7.out.size)⟩)
                  have HO1 := Lib.hid (fun w' (h : RowY w3 w' X cap 256 ys) kd num => h.open_ HG.out.1 HG.out.2 H3.out.2.2.2 Hy.out.2 kd num)
                  clear ho hb8 HSr
                  go_wp2_with fail
                  refine (HO1.out w8 Y8.out kd (kd + 1)).mono ?_
                  rintro e w9 ⟨rfl, hb9⟩
                  have Y9 := Lib.hid (Y8.out.below hb9)
                  clear hb9
                  go_wp2_with fail
                  refine (HO1.out w9 Y9.out 2 (-1)).mono ?_
                  rintro e w10 ⟨rfl, hb10⟩
                  have Y10 := Lib.hid (Y9.out.below hb10)
                  clear hb10
                  go_wp2_with (at_builtin; go_loud (refine wpList_append_one_g (by rfl) (.tmp 76) (.tmp 77) (by rfl) w3.heap.size X 256 cap (u8s ys) (by rfl) (Y10.out.own.alloc _) ⟨w10.heap.size, 0, none⟩ 1 (.int .u8 0) (by rfl) (by rfl) (cell_one_new _ _ _) (by decide) (by rw [World.size_alloc]; exact Nat.le_succ_of_le Y10.out.bl.size) ?_; intro v' w11 h1 h2 h3))
                  obtain ⟨X2, c2, rfl, Yn, Y11⟩ := Y10.out.more h1 h2 h3
                  have Y11 := Lib.hid Y11
                  have HO2 := Yn.open_ HG.out.1 HG.out.2 H3.out.2.2.2 (fun z hz => by rcases List.mem_append.1 hz with h | h; exact Hy.out.2 z h; rw [List.mem_singleton] at h; omega) 2 0
                  clear h1 h2 h3
                  refine HO2.mono ?_
                  rintro e w12 ⟨rfl, hb12⟩
                  have Y12 := Lib.hid (Y11.out.below hb12)
                  clear hb12 HO2 Yn
                  go_wp2_with fail
                  go_loopg [10] 256 (fun gk x wx => ∃ n : Nat, gk = 256 - n ∧ n ≤ 256 ∧ x = .int .i64 (n : Int) ∧ Hid (RowY w3 wx X cap 256 ys))
                  case atStart => exact ⟨0, rfl, by omega, rfl, Y12⟩
                  case round =>
                    obtain ⟨n, hgn, hn, rfl, hY⟩ := hrel
                    have Hgn := Lib.hid hgn
                    clear hgn Y12 Y11 Y10 Y9 Y8
                    by_cases hn256 : n < 256
                    · by_cases hk2 : kd = 2
                      · have e1 : (kd == 2) = true := beq_iff_eq.2 hk2
                        clear hk2
                        have hbn := below_new wr (.cells #[] 5)
                        have H1 := Lib.hid (And.intro ((own_reads hY.out.own Hy.out.2).below hbn) (BlockIs.made wr 5 #[]))
                        have hn1 : (n : Int) < 256 := by omega
                        have HX1 := HX.out
                        subst HX1
                        clear hbn
                        go_wp2_with (at_builtin; go_loud (refine wpList_clone8 (by rfl) _ _ (by rfl) wr.heap.size (by rfl) H1.out.2 (some ⟨gb, 0, none⟩) ys 256 cap (by rfl) Hy.out.1 (by decide) H1.out.1 (by decide) ?_; intro g3 cap3 wx ho3 hg3 hc3 hm3 hgr3; have R1 := Lib.hid (rowB_clone Hy.out.1 Hy.out.2 ho3 hg3 hgr3); obtain ⟨⟨z, cz⟩, fz⟩ := R1.out.cell n (by omega); clear ho3 hg3 hc3 hm3 hgr3))
                        have R2 := Lib.hid (R1.out.set n _ (bits8_bd .xor z (1 + (i : Int) * 23)))
                        clear cz fz
                        generalize wx.setCell ⟨g3, n, none⟩ (.int .u8 (bits .xor .u8 z (1 + (i : Int) * 23))) = w13 at *
                        have hbr := hY.out.bl.trans (R2.out.bl.mono hY.out.bl.size)
                        have D13 := Lib.hid (H3.out.2.2.2.trans (hbr.mono H3.out.2.2.2.size))
                        clear hbr
                        refine (R2.out.open_ HG.out.1 HG.out.2 D13.out 2 3).mono ?_
                        rintro e w14 ⟨rfl, hb14⟩
                        have R3 := Lib.hid (R2.out.below hb14)
                        have D14 := Lib.hid (D13.out.trans (hb14.mono D13.out.size))
                        clear hb14
                        obtain ⟨zs, zl, zb, zc, zm⟩ := R3.out.reads
                        have HRs := Lib.hid (resealed_any w14 (some ⟨g3, 0, none⟩) zs cap3 zb zl zc zm)
                        clear zb zl zc zm
                        go_wp2_with fail
                        refine HRs.out.mono ?_
                        rintro e w15 ⟨g5, cap5, rfl, hR5⟩
                        have R5 := Lib.hid hR5
                        have D15 := Lib.hid (D14.out.trans (hR5.bl.mono D14.out.size))
                        clear hR5 HRs
                        go_wp2_with fail
                        refine (R5.out.open_ HG.out.1 HG.out.2 D15.out 2 3).mono ?_
                        rintro e w16 ⟨rfl, hb16⟩
                        have hb14 := R5.out.bl.trans (hb16.mono R5.out.bl.size)
                        have Y16 := Lib.hid (hY.out.below (R3.out.bl.trans (hb14.mono R3.out.bl.size)))
                        clear hb16 hb14
                        go_wp2_with fail
                        go_roundg (256 - (n + 1))
                        case measure => rw [Hgn.out]; omega
                        case rel => exact ⟨n + 1, rfl, by omega, by go_num, Y16⟩
                      · have e1 : (kd == 2) = false := beq_eq_false_iff_ne.2 hk2
                        by_cases h40 : (n : Int) < 40
                        · have hbn := below_new wr (.cells #[] 5)
                          have H1 := Lib.hid (And.intro ((own_reads hY.out.own Hy.out.2).below hbn) (BlockIs.made wr 5 #[]))
                          have hn1 : (n : Int) < 256 := by omega
                          have HX1 := HX.out
                          subst HX1
                          clear hbn
                          go_wp2_with (at_builtin; go_loud (refine wpList_clone8 (by rfl) _ _ (by rfl) wr.heap.size (by rfl) H1.out.2 (some ⟨gb, 0, none⟩) ys 256 cap (by rfl) Hy.out.1 (by decide) H1.out.1 (by decide) ?_; intro g3 cap3 wx ho3 hg3 hc3 hm3 hgr3; have R1 := Lib.hid (rowB_clone Hy.out.1 Hy.out.2 ho3 hg3 hgr3); obtain ⟨⟨z, cz⟩, fz⟩ := R1.out.cell n (by omega); clear ho3 hg3 hc3 hm3 hgr3))
                          have R2 := Lib.hid (R1.out.set n _ (bits8_bd .xor z (1 + (i : Int) * 23)))
                          clear cz fz
                          generalize wx.setCell ⟨g3, n, none⟩ (.int .u8 (bits .xor .u8 z (1 + (i : Int) * 23))) = w13 at *
                          have hbr := hY.out.bl.trans (R2.out.bl.mono hY.out.bl.size)
                          have D13 := Lib.hid (H3.out.2.2.2.trans (hbr.mono H3.out.2.2.2.size))
                          clear hbr
                          refine (R2.out.open_ HG.out.1 HG.out.2 D13.out 2 3).mono ?_
                          rintro e w14 ⟨rfl, hb14⟩
                          have R3 := Lib.hid (R2.out.below hb14)
                          have D14 := Lib.hid (D13.out.trans (hb14.mono D13.out.size))
                          clear hb14
                          obtain ⟨zs, zl, zb, zc, zm⟩ := R3.out.reads
                          have HRs := Lib.hid (resealed_any w14 (some ⟨g3, 0, none⟩) zs cap3 zb zl zc zm)
                          clear zb zl zc zm
                          go_wp2_with fail
                          refine HRs.out.mono ?_
                          rintro e w15 ⟨g5, cap5, rfl, hR5⟩
                          have R5 := Lib.hid hR5
                          have D15 := Lib.hid (D14.out.trans (hR5.bl.mono D14.out.size))
                          clear hR5 HRs
                          go_wp2_with fail
                          refine (R5.out.open_ HG.out.1 HG.out.2 D15.out 2 3).mono ?_
                          rintro e w16 ⟨rfl, hb16⟩
                          have hb14 := R5.out.bl.trans (hb16.mono R5.out.bl.size)
                          have Y16 := Lib.hid (hY.out.below (R3.out.bl.trans (hb14.mono R3.out.bl.size)))
                          clear hb16 hb14
                          go_wp2_with fail
                          go_roundg (256 - (n + 1))
                          case measure => rw [Hgn.out]; omega
                          case rel => exact ⟨n + 1, rfl, by omega, by go_num, Y16⟩
                        · have hn1 : (n : Int) < 256 := by omega
                          go_wp2_with fail
                          go_roundg (11 - (i + 1))
                          case measure => rw [Hgi.out]; omega
                          case rel => exact ⟨i + 1, rfl, by omega, by go_num, Lib.hid hY.out.bl⟩
                    · obtain rfl : n = 256 := by omega
                      go_wp2_with fail
                      go_roundg (11 - (i + 1))
                      case measure => rw [Hgi.out]; omega
                      case rel => exact ⟨i + 1, rfl, by omega, by go_num, Lib.hid hY.out.bl⟩
                · rw [hys] at HSr
                  have HSr := Lib.hid HSr
                  clear hys
                  refine HSr.out.mono ?_
                  rintro e w8 ⟨v, rfl, ho, hb8⟩
                  obtain ⟨X, cap, rfl, _, _⟩ := own_slice ho
                  have Y8 := Lib.hid (show RowY w3 w8 X cap 0 [] from ⟨rfl, own_mono ho C7.out.size, C7.out.trans (hb8.mono C7.out.size)⟩)
                  have HO1 := Lib.hid (fun w' (h : RowY w3 w' X cap 0 []) kd num => h.open_ HG.out.1 HG.out.2 H3.out.2.2.2 (fun z hz => by cases hz) kd num)
                  clear ho hb8 HSr
                  go_wp2_with fail
                  refine (HO1.out w8 Y8.out kd (kd + 1)).mono ?_
                  rintro e w9 ⟨rfl, hb9⟩
                  have Y9 := Lib.hid (Y8.out.below hb9)
                  clear hb9
                  go_wp2_with fail
                  refine (HO1.out w9 Y9.out 2 (-1)).mono ?_
                  rintro e w10 ⟨rfl, hb10⟩
                  have Y10 := Lib.hid (Y9.out.below hb10)
                  clear hb10
                  go_wp2_with (at_builtin; go_loud (refine wpList_append_one_g (by rfl) (.tmp 76) (.tmp 77) (by rfl) w3.heap.size X 0 cap (u8s []) (by rfl) (Y10.out.own.alloc _) ⟨w10.heap.size, 0, none⟩ 1 (.int .u8 0) (by rfl) (by rfl) (cell_one_new _ _ _) (by decide) (by rw [World.size_alloc]; exact Nat.le_succ_of_le Y10.out.bl.size) ?_; intro v' w11 h1 h2 h3))
                  obtain ⟨X2, c2, rfl, Yn, Y11⟩ := Y10.out.more h1 h2 h3
                  have Y11 := Lib.hid Y11
                  have HO2 := Yn.open_ HG.out.1 HG.out.2 H3.out.2.2.2 (fun z hz => by rw [List.nil_append, List.mem_singleton] at hz; omega) 2 0
                  clear h1 h2 h3
                  refine HO2.mono ?_
                  rintro e w12 ⟨rfl, hb12⟩
                  have Y12 := Lib.hid (Y11.out.below hb12)
                  clear hb12 HO2 Yn
                  go_wp2_with fail
                  refine wp_loop_rounds 1 ?_
                  rw [rounds_succ]
                  go_wp2_with fail
                  go_roundg (11 - (i + 1))
                  case measure => rw [Hgi.out]; omega
                  case rel => exact ⟨i + 1, rfl, by omega, by go_num, Lib.hid Y12.out.bl⟩
            · obtain rfl : i = 11 := by omega
              clear hlti hi
              go_wp2_with fail
              go_roundg (11 - (a + 1))
              case measure => rw [Hga.out]; omega
              case rel => exact ⟨a + 1, kd + 1, rfl, by omega, by go_num, by have := Hkd.out; omega, hb⟩
        · obtain rfl : a = 11 := by omega
          obtain rfl : kd = 10 := by omega
          clear hlta ha hga hkd
          have hbb := H3.out.2.2.2.trans (hb.out.mono H3.out.2.2.2.size)
          have Hbb := Lib.hid hbb
          have HO := Lib.hid (unitOpens_any σ τ wr (HG.out.1.below hbb) (HG.out.2.below hbb) none [] 0 (BytesAt.nil _ _) (by decide) (by decide) (fun _ => rfl) 1 0)
          clear hbb hb
          go_wp2_with fail
          refine HO.out.mono ?_
          rintro e wA ⟨rfl, hbA⟩
          have BA := Lib.hid (Hbb.out.trans (hbA.mono Hbb.out.size))
          have hmk := made256 wA
          have RA := Lib.hid (rowB_made wA 256 (by decide))
          obtain ⟨zA, lA, yA, _, _⟩ := RA.out.reads
          have hbb := BA.out.trans (RA.out.bl.mono BA.out.size)
          have HO2 := unitOpens_any σ τ _ (HG.out.1.below hbb) (HG.out.2.below hbb) (some ⟨wA.heap.size, 0, none⟩) zA 256 yA (by rw [lA]; decide) (by decide) (fun e => by cases e) 0 0
          rw [lA] at HO2
          have HO2 := Lib.hid HO2
          have BB := Lib.hid hbb
          clear hbA yA lA hbb HO
          go_wp2_with fail
          clear hmk
          refine HO2.out.mono ?_
          rintro e wB ⟨rfl, hbB⟩
          have BC := Lib.hid (BB.out.trans (hbB.mono BB.out.size))
          have hmk := made255 wB
          have RB := Lib.hid (rowB_made wB 255 (by decide))
          obtain ⟨zB, lB, yB, _, _⟩ := RB.out.reads
          have hbb := BC.out.trans (RB.out.bl.mono BC.out.size)
          have HO3 := unitOpens_any σ τ _ (HG.out.1.below hbb) (HG.out.2.below hbb) (some ⟨wB.heap.size, 0, none⟩) zB 255 yB (by rw [lB]; decide) (by decide) (fun e => by cases e) 1 0
          rw [lB] at HO3
          have HO3 := Lib.hid HO3
          have BD := Lib.hid hbb
          clear hbB yB lB hbb HO2
          go_wp2_with fail
          clear hmk
          refine HO3.out.mono ?_
          rintro e wC ⟨rfl, hbC⟩
          have BE := Lib.hid (BD.out.trans (hbC.mono BD.out.size))
          have HAw := Lib.hid (awake_any σ τ wC (HG.out.1.below BE.out) (HG.out.2.below BE.out))
          clear hbC HO3
          go_wp2_with fail
          refine HAw.out.mono ?_
          rintro e wD ⟨rfl, hbD⟩
          have BF := Lib.hid (BE.out.trans (hbD.mono BE.out.size))
          clear hbD
          go_wp2_with fail
          go_ret
          exact ⟨rfl, BF.out⟩
end Go.Proofs.YtbkecaenjjlmoaaGreatDoor
