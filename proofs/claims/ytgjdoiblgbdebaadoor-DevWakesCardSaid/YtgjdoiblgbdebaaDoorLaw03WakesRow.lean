/- DevWakes: the closed statement: the walk. -/
/- DevWakes: the closed statement: three writes of two blocks, behind stored ones, woken by each set of them, torn at each place of each; armed about each turn; ends; no disk. The row's statement, and its tied card (the listed variables are tied to the program's text). -/
import Derived.Test.YtgjdoiblgbdebaaDoorLaw03Ends
import Derived.Test.YtgjdoiblgbdebaaDoorLaw03None
import Derived.Test.YtgjdoiblgbdebaaDoorLaw03Facts
import Derived.SevenTiedAt
namespace Go.Proofs.YtgjdoiblgbdebaaDoor
open Go.RowKit
set_option maxRecDepth 100000 in
set_option maxHeartbeats 8000000 in
theorem devWakes_any (σ : SenD) (w : World) (hG : GlD σ w) (hS : GlS σ w) :
    Calls Tryd.prog 4 #[] w fun e w' => e = .returned (.bool true) ∧ Below w.heap.size w w' := by
  have HG := Lib.hid (And.intro hG hS)
  clear hG hS
  go_enter Tryd.func4, Tryd.ntmps4
  go_wp2_with fail
  go_loopg [1] 8 (fun gk i wx => ∃ s : Nat, gk = 8 - s ∧ s ≤ 8 ∧ i = .int .i64 (s : Int) ∧ Hid (Below w.heap.size w wx))
  case atStart => exact ⟨0, rfl, by omega, rfl, Lib.hid (Below.refl _ _)⟩
  case round =>
    obtain ⟨s, hgk1, hs, rfl, hb1⟩ := hrel
    have Hgk1 := Lib.hid hgk1
    clear hgk1
    by_cases hs8 : (s : Int) < 8
    · go_wp2_with fail
      go_loopg [2] 5 (fun gk i wx => ∃ (t : Nat) (zt : Int), gk = 5 - t ∧ t ≤ 5 ∧ i = .int .i64 zt ∧ Hid (zt = (t : Int) - 1) ∧ Hid (Below w.heap.size w wx))
      case atStart => exact ⟨0, -1, rfl, by omega, rfl, Lib.hid rfl, hb1⟩
      case round =>
        obtain ⟨t, zt, hgk2, ht, rfl, hzt, hb2⟩ := hrel
        have Hgk2 := Lib.hid hgk2
        clear hgk2
        have ht1 : -1 ≤ zt := by have := hzt.out; omega
        by_cases ht5 : t < 5
        · have ht2 : zt < 4 := by have := hzt.out; omega
          go_wp2_with fail
          go_loopg [3] 11 (fun gk i wx => ∃ (p : Nat) (zp : Int), gk = 11 - p ∧ p ≤ 11 ∧ i = .int .i64 zp ∧ Hid (zp = (p : Int) - 1) ∧ Hid (Below w.heap.size w wx))
          case atStart => exact ⟨0, -1, rfl, by omega, rfl, Lib.hid rfl, hb2⟩
          case round =>
            obtain ⟨p, zp, hgk3, hp, rfl, hzp, hb3⟩ := hrel
            have Hgk3 := Lib.hid hgk3
            clear hgk3
            have hp1 : -1 ≤ zp := by have := hzp.out; omega
            by_cases hp11 : p < 11
            · have hp2 : zp < 10 := by have := hzp.out; omega
              go_wp2_with fail
              refine (bytes_any wr 256 1 (by decide) (by decide) (by decide)).mono ?_
              rintro e w1 ⟨g1, rfl, y1, l1, b1⟩
              have H1 := Lib.hid (And.intro y1 (And.intro l1 (hb3.out.trans (b1.mono hb3.out.size))))
              clear y1 l1 b1
              go_wp2_with fail
              refine (bytes_any w1 256 2 (by decide) (by decide) (by decide)).mono ?_
              rintro e w2 ⟨g2, rfl, y2, l2, b2⟩
              have H2 := Lib.hid (And.intro y2 (And.intro l2 b2))
              clear y2 l2 b2
              go_wp2_with fail
              refine (bytes_any w2 256 30 (by decide) (by decide) (by decide)).mono ?_
              rintro e w3 ⟨g3, rfl, y3, l3, b3⟩
              have H3 := Lib.hid (And.intro y3 (And.intro l3 b3))
              clear y3 l3 b3
              go_wp2_with fail
              refine (bytes_any w3 200 60 (by decide) (by decide) (by decide)).mono ?_
              rintro e w4 ⟨g4, rfl, y4, l4, b4⟩
              have H4 := Lib.hid (And.intro y4 (And.intro l4 b4))
              clear y4 l4 b4
              go_wp2_with fail
              refine (bytes_any w4 256 90 (by decide) (by decide) (by decide)).mono ?_
              rintro e w5 ⟨g5, rfl, y5, l5, b5⟩
              have H5 := Lib.hid (And.intro y5 (And.intro l5 b5))
              clear y5 l5 b5
              go_wp2_with fail
              have H5b : Hid (BytesAt w5 (some ⟨g1, 0, none⟩) (numB 256 1) ∧ g1 < w5.heap.size ∧ BytesAt w5 (some ⟨g2, 0, none⟩) (numB 256 2) ∧ g2 < w5.heap.size ∧ BytesAt w5 (some ⟨g3, 0, none⟩) (numB 256 30) ∧ g3 < w5.heap.size ∧ BytesAt w5 (some ⟨g4, 0, none⟩) (numB 200 60) ∧ g4 < w5.heap.size ∧ BytesAt w5 (some ⟨g5, 0, none⟩) (numB 256 90) ∧ g5 < w5.heap.size) := Lib.hid (by
                have s2 := H2.out.2.2.size
                have s3 := H3.out.2.2.size
                have s4 := H4.out.2.2.size
                have s5 := H5.out.2.2.size
                have l1 := H1.out.2.1
                have l2 := H2.out.2.1
                have l3 := H3.out.2.1
                have l4 := H4.out.2.1
                exact ⟨(((H1.out.1.below H2.out.2.2).below H3.out.2.2).below H4.out.2.2).below H5.out.2.2, by omega, ((H2.out.1.below H3.out.2.2).below H4.out.2.2).below H5.out.2.2, by omega, (H3.out.1.below H4.out.2.2).below H5.out.2.2, by omega, H4.out.1.below H5.out.2.2, by omega, H5.out.1, H5.out.2.1⟩)
              have H5w : Hid (Below w.heap.size w w5) := Lib.hid (by
                have b1 := H1.out.2.2
                have b2 := b1.trans (H2.out.2.2.mono b1.size)
                have b3 := b2.trans (H3.out.2.2.mono b2.size)
                have b4 := b3.trans (H4.out.2.2.mono b3.size)
                exact b4.trans (H5.out.2.2.mono b4.size))
              have htm := tmod_bd (wrap64 (zp.tmod 2 * zp)) 2 (by decide)
              have HG5 := Lib.hid (And.intro (HG.out.1.below H5w.out) (HG.out.2.below H5w.out))
              have hok : ∀ x ∈ ([⟨1, 0, some ⟨g1, 0, none⟩, numB 256 1, 256, 0, 0, 0⟩, ⟨1, 1, some ⟨g2, 0, none⟩, numB 256 2, 256, 0, 0, 0⟩, ⟨3, 0, none, [], 0, 0, 0, 0⟩, ⟨7, (wrap64 (zp.tmod 2 * zp)).tmod 2, none, [], 0, 40 * zp, 0, 5⟩, ⟨1, (s : Int) % 2, some ⟨g3, 0, none⟩, numB 256 30, 256, 0, 0, 0⟩, ⟨1, 1, some ⟨g4, 0, none⟩, numB 200 60, 200, 0, 0, 0⟩, ⟨1, 0, some ⟨g5, 0, none⟩, numB 256 90, 256, 0, 0, 0⟩, ⟨5, 0, none, [], 0, 0, 0, 0⟩, ⟨8, zt, none, [], 0, 0, 0, 0⟩, ⟨6, (s : Int), none, [], 0, zt, zp, 0⟩, ⟨7, 0, none, [], 0, 2047, 0, 1⟩, ⟨8, 1, none, [], 0, 0, 0, 0⟩] : List DeedV), x.ok w5 := by
                intro x hx
                simp only [List.mem_cons, List.not_mem_nil, or_false] at hx
                rcases hx with rfl | rfl | rfl | rfl | rfl | rfl | rfl | rfl | rfl | rfl | rfl | rfl
                · exact bytesD_ok (H5b.out.1) (by rw [numB_len]; omega) (H5b.out.2.1) _ _ _ _ _ _ (by decide) (by decide)
                · exact bytesD_ok (H5b.out.2.2.1) (by rw [numB_len]; omega) (H5b.out.2.2.2.1) _ _ _ _ _ _ (by decide) (by decide)
                · exact plainD_ok _ _ _ _ _ _ (by decide) (by decide)
                · exact plainD_ok _ _ _ _ _ _ (by omega) (by decide)
                · exact bytesD_ok (H5b.out.2.2.2.2.1) (by rw [numB_len]; omega) (H5b.out.2.2.2.2.2.1) _ _ _ _ _ _ (by omega) (by decide)
                · exact bytesD_ok (H5b.out.2.2.2.2.2.2.1) (by rw [numB_len]; omega) (H5b.out.2.2.2.2.2.2.2.1) _ _ _ _ _ _ (by decide) (by decide)
                · exact bytesD_ok (H5b.out.2.2.2.2.2.2.2.2.1) (by rw [numB_len]; omega) (H5b.out.2.2.2.2.2.2.2.2.2) _ _ _ _ _ _ (by decide) (by decide)
                · exact plainD_ok _ _ _ _ _ _ (by decide) (by decide)
                · exact plainD_ok _ _ _ _ _ _ (by omega) (by decide)
                · exact plainD_ok _ _ _ _ _ _ (by omega) (by decide)
                · exact plainD_ok _ _ _ _ _ _ (by decide) (by decide)
                · exact plainD_ok _ _ _ _ _ _ (by decide) (by decide)
              have hD := deedsAt_new hok
              rw [show (([⟨1, 0, some ⟨g1, 0, none⟩, numB 256 1, 256, 0, 0, 0⟩, ⟨1, 1, some ⟨g2, 0, none⟩, numB 256 2, 256, 0, 0, 0⟩, ⟨3, 0, none, [], 0, 0, 0, 0⟩, ⟨7, (wrap64 (zp.tmod 2 * zp)).tmod 2, none, [], 0, 40 * zp, 0, 5⟩, ⟨1, (s : Int) % 2, some ⟨g3, 0, none⟩, numB 256 30, 256, 0, 0, 0⟩, ⟨1, 1, some ⟨g4, 0, none⟩, numB 200 60, 200, 0, 0, 0⟩, ⟨1, 0, some ⟨g5, 0, none⟩, numB 256 90, 256, 0, 0, 0⟩, ⟨5, 0, none, [], 0, 0, 0, 0⟩, ⟨8, zt, none, [], 0, 0, 0, 0⟩, ⟨6, (s : Int), none, [], 0, zt, zp, 0⟩, ⟨7, 0, none, [], 0, 2047, 0, 1⟩, ⟨8, 1, none, [], 0, 0, 0, 0⟩] : List DeedV).flatMap DeedV.cells).toArray = #[.int .i64 (1), .int .i64 (0), .slice (some ⟨g1, 0, none⟩) (256) (256), .int .i64 (0), .int .i64 (0), .int .u32 (0), .int .i64 (1), .int .i64 (1), .slice (some ⟨g2, 0, none⟩) (256) (256), .int .i64 (0), .int .i64 (0), .int .u32 (0), .int .i64 (3), .int .i64 (0), .slice none 0 0, .int .i64 (0), .int .i64 (0), .int .u32 (0), .int .i64 (7), .int .i64 ((wrap64 (zp.tmod 2 * zp)).tmod 2), .slice none 0 0, .int .i64 (40 * zp), .int .i64 (0), .int .u32 (5), .int .i64 (1), .int .i64 ((s : Int) % 2), .slice (some ⟨g3, 0, none⟩) (256) (256), .int .i64 (0), .int .i64 (0), .int .u32 (0), .int .i64 (1), .int .i64 (1), .slice (some ⟨g4, 0, none⟩) (200) (200), .int .i64 (0), .int .i64 (0), .int .u32 (0), .int .i64 (1), .int .i64 (0), .slice (some ⟨g5, 0, none⟩) (256) (256), .int .i64 (0), .int .i64 (0), .int .u32 (0), .int .i64 (5), .int .i64 (0), .slice none 0 0, .int .i64 (0), .int .i64 (0), .int .u32 (0), .int .i64 (8), .int .i64 (zt), .slice none 0 0, .int .i64 (0), .int .i64 (0), .int .u32 (0), .int .i64 (6), .int .i64 ((s : Int)), .slice none 0 0, .int .i64 (zt), .int .i64 (zp), .int .u32 (0), .int .i64 (7), .int .i64 (0), .slice none 0 0, .int .i64 (2047), .int .i64 (0), .int .u32 (1), .int .i64 (8), .int .i64 (1), .slice none 0 0, .int .i64 (0), .int .i64 (0), .int .u32 (0)] by simp [DeedV.cells, numB_len]] at hD
              have hbn := below_new w5 (.cells #[.int .i64 (1), .int .i64 (0), .slice (some ⟨g1, 0, none⟩) (256) (256), .int .i64 (0), .int .i64 (0), .int .u32 (0), .int .i64 (1), .int .i64 (1), .slice (some ⟨g2, 0, none⟩) (256) (256), .int .i64 (0), .int .i64 (0), .int .u32 (0), .int .i64 (3), .int .i64 (0), .slice none 0 0, .int .i64 (0), .int .i64 (0), .int .u32 (0), .int .i64 (7), .int .i64 ((wrap64 (zp.tmod 2 * zp)).tmod 2), .slice none 0 0, .int .i64 (40 * zp), .int .i64 (0), .int .u32 (5), .int .i64 (1), .int .i64 ((s : Int) % 2), .slice (some ⟨g3, 0, none⟩) (256) (256), .int .i64 (0), .int .i64 (0), .int .u32 (0), .int .i64 (1), .int .i64 (1), .slice (some ⟨g4, 0, none⟩) (200) (200), .int .i64 (0), .int .i64 (0), .int .u32 (0), .int .i64 (1), .int .i64 (0), .slice (some ⟨g5, 0, none⟩) (256) (256), .int .i64 (0), .int .i64 (0), .int .u32 (0), .int .i64 (5), .int .i64 (0), .slice none 0 0, .int .i64 (0), .int .i64 (0), .int .u32 (0), .int .i64 (8), .int .i64 (zt), .slice none 0 0, .int .i64 (0), .int .i64 (0), .int .u32 (0), .int .i64 (6), .int .i64 ((s : Int)), .slice none 0 0, .int .i64 (zt), .int .i64 (zp), .int .u32 (0), .int .i64 (7), .int .i64 (0), .slice none 0 0, .int .i64 (2047), .int .i64 (0), .int .u32 (1), .int .i64 (8), .int .i64 (1), .slice none 0 0, .int .i64 (0), .int .i64 (0), .int .u32 (0)] 36)
              have HD := Lib.hid (devDoes_any σ _ (HG5.out.1.below hbn) (HG5.out.2.below hbn) 3 (some ⟨w5.heap.size, 0, none⟩) [⟨1, 0, some ⟨g1, 0, none⟩, numB 256 1, 256, 0, 0, 0⟩, ⟨1, 1, some ⟨g2, 0, none⟩, numB 256 2, 256, 0, 0, 0⟩, ⟨3, 0, none, [], 0, 0, 0, 0⟩, ⟨7, (wrap64 (zp.tmod 2 * zp)).tmod 2, none, [], 0, 40 * zp, 0, 5⟩, ⟨1, (s : Int) % 2, some ⟨g3, 0, none⟩, numB 256 30, 256, 0, 0, 0⟩, ⟨1, 1, some ⟨g4, 0, none⟩, numB 200 60, 200, 0, 0, 0⟩, ⟨1, 0, some ⟨g5, 0, none⟩, numB 256 90, 256, 0, 0, 0⟩, ⟨5, 0, none, [], 0, 0, 0, 0⟩, ⟨8, zt, none, [], 0, 0, 0, 0⟩, ⟨6, (s : Int), none, [], 0, zt, zp, 0⟩, ⟨7, 0, none, [], 0, 2047, 0, 1⟩, ⟨8, 1, none, [], 0, 0, 0, 0⟩] 12 hD (by show 12 ≤ _; decide))
              have Hbn := Lib.hid hbn
              clear hok hD hbn
              clear htm
              refine HD.out.mono ?_
              rintro e w6 ⟨rfl, b6⟩
              have H6 := Lib.hid (H5w.out.trans ((Hbn.out.trans (b6.mono Hbn.out.size)).mono H5w.out.size))
              clear b6
              go_wp2_with fail
              go_roundg (11 - (p + 1))
              case measure => rw [Hgk3.out]; omega
              case rel => exact ⟨p + 1, zp + 1, rfl, by omega, by go_num, Lib.hid (by rw [hzp.out]; omega), H6⟩
            · have hp2 : ¬ zp < 10 := by have := hzp.out; omega
              go_wp2_with fail
              go_roundg (5 - (t + 1))
              case measure => rw [Hgk2.out]; omega
              case rel => exact ⟨t + 1, zt + 1, rfl, by omega, by go_num, Lib.hid (by rw [hzt.out]; omega), hb3⟩
        · have ht2 : ¬ zt < 4 := by have := hzt.out; omega
          go_wp2_with fail
          go_roundg (8 - (s + 1))
          case measure => rw [Hgk1.out]; omega
          case rel => exact ⟨s + 1, rfl, by omega, by go_num, hb2⟩
    · go_wp2_with fail
      go_loopg [5] 10 (fun gk i wx => ∃ (q : Nat) (zn : Int), gk = 10 - q ∧ q ≤ 10 ∧ i = .int .i64 zn ∧ Hid (zn = (q : Int) - 1) ∧ Hid (Below w.heap.size w wx))
      case atStart => exact ⟨0, -1, rfl, by omega, rfl, Lib.hid rfl, hb1⟩
      case round =>
        obtain ⟨q, zn, hgk, hq, rfl, hzn, hb4⟩ := hrel
        have Hgk := Lib.hid hgk
        clear hgk
        have hn1 : -1 ≤ zn := by have := hzn.out; omega
        by_cases hq10 : q < 10
        · have hn2 : zn < 9 := by have := hzn.out; omega
          have x1 := below_new wr (.cells #[.int .u8 1] 5)
          have x2 := below_new (wr.alloc (.cells #[.int .u8 1] 5)) (.cells #[.int .u8 2] 5)
          have x3 := below_new ((wr.alloc (.cells #[.int .u8 1] 5)).alloc (.cells #[.int .u8 2] 5)) (.cells #[.int .u8 3] 5)
          have y1 : BytesAt (wr.alloc (.cells #[.int .u8 1] 5)) (some ⟨wr.heap.size, 0, none⟩) [1] := bytesAt_lit wr [1] (by decide)
          have y2 : BytesAt ((wr.alloc (.cells #[.int .u8 1] 5)).alloc (.cells #[.int .u8 2] 5)) (some ⟨(wr.alloc (.cells #[.int .u8 1] 5)).heap.size, 0, none⟩) [2] := bytesAt_lit _ [2] (by decide)
          have y3 : BytesAt (((wr.alloc (.cells #[.int .u8 1] 5)).alloc (.cells #[.int .u8 2] 5)).alloc (.cells #[.int .u8 3] 5)) (some ⟨((wr.alloc (.cells #[.int .u8 1] 5)).alloc (.cells #[.int .u8 2] 5)).heap.size, 0, none⟩) [3] := bytesAt_lit _ [3] (by decide)
          have s3 : (((wr.alloc (.cells #[.int .u8 1] 5)).alloc (.cells #[.int .u8 2] 5)).alloc (.cells #[.int .u8 3] 5)).heap.size = wr.heap.size + 1 + 1 + 1 := by rw [size1, size1, size1]
          rw [size1] at y2
          rw [size1, size1] at y3
          have H3 := Lib.hid (show BytesAt (((wr.alloc (.cells #[.int .u8 1] 5)).alloc (.cells #[.int .u8 2] 5)).alloc (.cells #[.int .u8 3] 5)) (some ⟨wr.heap.size, 0, none⟩) [1] ∧ BytesAt (((wr.alloc (.cells #[.int .u8 1] 5)).alloc (.cells #[.int .u8 2] 5)).alloc (.cells #[.int .u8 3] 5)) (some ⟨wr.heap.size + 1, 0, none⟩) [2] ∧ BytesAt (((wr.alloc (.cells #[.int .u8 1] 5)).alloc (.cells #[.int .u8 2] 5)).alloc (.cells #[.int .u8 3] 5)) (some ⟨wr.heap.size + 1 + 1, 0, none⟩) [3] ∧ Below wr.heap.size wr (((wr.alloc (.cells #[.int .u8 1] 5)).alloc (.cells #[.int .u8 2] 5)).alloc (.cells #[.int .u8 3] 5)) ∧ (((wr.alloc (.cells #[.int .u8 1] 5)).alloc (.cells #[.int .u8 2] 5)).alloc (.cells #[.int .u8 3] 5)).heap.size = wr.heap.size + 1 + 1 + 1 from ⟨(y1.below x2).below x3, y2.below x3, y3, by
            have z2 := x1.trans (x2.mono x1.size)
            exact z2.trans (x3.mono z2.size), s3⟩)
          have HG5 := Lib.hid (And.intro (HG.out.1.below (hb4.out.trans (H3.out.2.2.2.1.mono hb4.out.size))) (HG.out.2.below (hb4.out.trans (H3.out.2.2.2.1.mono hb4.out.size))))
          clear x1 x2 x3 y1 y2 y3 s3
          go_wp2_with fail
          have hok : ∀ x ∈ ([⟨4, zn, none, [], 0, 0, 0, 0⟩, ⟨1, 0, some ⟨wr.heap.size, 0, none⟩, [1], 1, 0, 0, 0⟩, ⟨1, 5, none, [], 0, 0, 0, 0⟩, ⟨3, 0, none, [], 0, 0, 0, 0⟩, ⟨0, 0, none, [], 0, 0, 0, 0⟩, ⟨1, 1, some ⟨wr.heap.size + 1, 0, none⟩, [2], 1, 0, 0, 0⟩, ⟨3, 0, none, [], 0, 0, 0, 0⟩, ⟨1, 0, some ⟨wr.heap.size + 1 + 1, 0, none⟩, [3], 1, 0, 0, 0⟩, ⟨6, -1, none, [], 0, 0, 0, 0⟩, ⟨5, 0, none, [], 0, 0, 0, 0⟩, ⟨6, 576460752303423488, none, [], 0, 0, 0, 0⟩] : List DeedV), x.ok (((wr.alloc (.cells #[.int .u8 1] 5)).alloc (.cells #[.int .u8 2] 5)).alloc (.cells #[.int .u8 3] 5)) := by
            intro x hx
            simp only [List.mem_cons, List.not_mem_nil, or_false] at hx
            rcases hx with rfl | rfl | rfl | rfl | rfl | rfl | rfl | rfl | rfl | rfl | rfl
            · exact plainD_ok _ _ _ _ _ _ (by omega) (by decide)
            · exact bytesD_ok (H3.out.1) (by decide) (by rw [H3.out.2.2.2.2]; omega) _ _ _ _ _ _ (by decide) (by decide)
            · exact plainD_ok _ _ _ _ _ _ (by decide) (by decide)
            · exact plainD_ok _ _ _ _ _ _ (by decide) (by decide)
            · exact plainD_ok _ _ _ _ _ _ (by decide) (by decide)
            · exact bytesD_ok (H3.out.2.1) (by decide) (by rw [H3.out.2.2.2.2]; omega) _ _ _ _ _ _ (by decide) (by decide)
            · exact plainD_ok _ _ _ _ _ _ (by decide) (by decide)
            · exact bytesD_ok (H3.out.2.2.1) (by decide) (by rw [H3.out.2.2.2.2]; omega) _ _ _ _ _ _ (by decide) (by decide)
            · exact plainD_ok _ _ _ _ _ _ (by decide) (by decide)
            · exact plainD_ok _ _ _ _ _ _ (by decide) (by decide)
            · exact plainD_ok _ _ _ _ _ _ (by decide) (by decide)
          have hD := deedsAt_new hok
          rw [show (([⟨4, zn, none, [], 0, 0, 0, 0⟩, ⟨1, 0, some ⟨wr.heap.size, 0, none⟩, [1], 1, 0, 0, 0⟩, ⟨1, 5, none, [], 0, 0, 0, 0⟩, ⟨3, 0, none, [], 0, 0, 0, 0⟩, ⟨0, 0, none, [], 0, 0, 0, 0⟩, ⟨1, 1, some ⟨wr.heap.size + 1, 0, none⟩, [2], 1, 0, 0, 0⟩, ⟨3, 0, none, [], 0, 0, 0, 0⟩, ⟨1, 0, some ⟨wr.heap.size + 1 + 1, 0, none⟩, [3], 1, 0, 0, 0⟩, ⟨6, -1, none, [], 0, 0, 0, 0⟩, ⟨5, 0, none, [], 0, 0, 0, 0⟩, ⟨6, 576460752303423488, none, [], 0, 0, 0, 0⟩] : List DeedV).flatMap DeedV.cells).toArray = #[.int .i64 (4), .int .i64 (zn), .slice none 0 0, .int .i64 (0), .int .i64 (0), .int .u32 (0), .int .i64 (1), .int .i64 (0), .slice (some ⟨wr.heap.size, 0, none⟩) (1) (1), .int .i64 (0), .int .i64 (0), .int .u32 (0), .int .i64 (1), .int .i64 (5), .slice none 0 0, .int .i64 (0), .int .i64 (0), .int .u32 (0), .int .i64 (3), .int .i64 (0), .slice none 0 0, .int .i64 (0), .int .i64 (0), .int .u32 (0), .int .i64 (0), .int .i64 (0), .slice none 0 0, .int .i64 (0), .int .i64 (0), .int .u32 (0), .int .i64 (1), .int .i64 (1), .slice (some ⟨wr.heap.size + 1, 0, none⟩) (1) (1), .int .i64 (0), .int .i64 (0), .int .u32 (0), .int .i64 (3), .int .i64 (0), .slice none 0 0, .int .i64 (0), .int .i64 (0), .int .u32 (0), .int .i64 (1), .int .i64 (0), .slice (some ⟨wr.heap.size + 1 + 1, 0, none⟩) (1) (1), .int .i64 (0), .int .i64 (0), .int .u32 (0), .int .i64 (6), .int .i64 (-1), .slice none 0 0, .int .i64 (0), .int .i64 (0), .int .u32 (0), .int .i64 (5), .int .i64 (0), .slice none 0 0, .int .i64 (0), .int .i64 (0), .int .u32 (0), .int .i64 (6), .int .i64 (576460752303423488), .slice none 0 0, .int .i64 (0), .int .i64 (0), .int .u32 (0)] by simp [DeedV.cells]] at hD
          have hbn := below_new (((wr.alloc (.cells #[.int .u8 1] 5)).alloc (.cells #[.int .u8 2] 5)).alloc (.cells #[.int .u8 3] 5)) (.cells #[.int .i64 (4), .int .i64 (zn), .slice none 0 0, .int .i64 (0), .int .i64 (0), .int .u32 (0), .int .i64 (1), .int .i64 (0), .slice (some ⟨wr.heap.size, 0, none⟩) (1) (1), .int .i64 (0), .int .i64 (0), .int .u32 (0), .int .i64 (1), .int .i64 (5), .slice none 0 0, .int .i64 (0), .int .i64 (0), .int .u32 (0), .int .i64 (3), .int .i64 (0), .slice none 0 0, .int .i64 (0), .int .i64 (0), .int .u32 (0), .int .i64 (0), .int .i64 (0), .slice none 0 0, .int .i64 (0), .int .i64 (0), .int .u32 (0), .int .i64 (1), .int .i64 (1), .slice (some ⟨wr.heap.size + 1, 0, none⟩) (1) (1), .int .i64 (0), .int .i64 (0), .int .u32 (0), .int .i64 (3), .int .i64 (0), .slice none 0 0, .int .i64 (0), .int .i64 (0), .int .u32 (0), .int .i64 (1), .int .i64 (0), .slice (some ⟨wr.heap.size + 1 + 1, 0, none⟩) (1) (1), .int .i64 (0), .int .i64 (0), .int .u32 (0), .int .i64 (6), .int .i64 (-1), .slice none 0 0, .int .i64 (0), .int .i64 (0), .int .u32 (0), .int .i64 (5), .int .i64 (0), .slice none 0 0, .int .i64 (0), .int .i64 (0), .int .u32 (0), .int .i64 (6), .int .i64 (576460752303423488), .slice none 0 0, .int .i64 (0), .int .i64 (0), .int .u32 (0)] 36)
          have HD := Lib.hid (devDoes_any σ _ (HG5.out.1.below hbn) (HG5.out.2.below hbn) 2 (some ⟨(((wr.alloc (.cells #[.int .u8 1] 5)).alloc (.cells #[.int .u8 2] 5)).alloc (.cells #[.int .u8 3] 5)).heap.size, 0, none⟩) [⟨4, zn, none, [], 0, 0, 0, 0⟩, ⟨1, 0, some ⟨wr.heap.size, 0, none⟩, [1], 1, 0, 0, 0⟩, ⟨1, 5, none, [], 0, 0, 0, 0⟩, ⟨3, 0, none, [], 0, 0, 0, 0⟩, ⟨0, 0, none, [], 0, 0, 0, 0⟩, ⟨1, 1, some ⟨wr.heap.size + 1, 0, none⟩, [2], 1, 0, 0, 0⟩, ⟨3, 0, none, [], 0, 0, 0, 0⟩, ⟨1, 0, some ⟨wr.heap.size + 1 + 1, 0, none⟩, [3], 1, 0, 0, 0⟩, ⟨6, -1, none, [], 0, 0, 0, 0⟩, ⟨5, 0, none, [], 0, 0, 0, 0⟩, ⟨6, 576460752303423488, none, [], 0, 0, 0, 0⟩] 11 hD (by show 11 ≤ _; decide))
          have Hbn := Lib.hid hbn
          clear hok hD hbn
          rw [H3.out.2.2.2.2] at HD
          refine HD.out.mono ?_
          rintro e w6 ⟨rfl, b6⟩
          have H6 := Lib.hid (hb4.out.trans ((H3.out.2.2.2.1.trans ((Hbn.out.trans (b6.mono Hbn.out.size)).mono H3.out.2.2.2.1.size)).mono hb4.out.size))
          clear b6
          go_wp2_with fail
          go_roundg (10 - (q + 1))
          case measure => rw [Hgk.out]; omega
          case rel => exact ⟨q + 1, zn + 1, rfl, by omega, by go_num, Lib.hid (by rw [hzn.out]; omega), H6⟩
        · have hn2 : ¬ zn < 9 := by have := hzn.out; omega
          go_wp2_with fail
          refine (ends_any σ wr (HG.out.1.below hb4.out) (HG.out.2.below hb4.out)).mono ?_
          rintro e w5 ⟨rfl, b5⟩
          have H5 := Lib.hid (hb4.out.trans (b5.mono hb4.out.size))
          clear b5
          go_wp2_with fail
          refine (none_any σ w5 (HG.out.1.below H5.out)).mono ?_
          rintro e w6 ⟨rfl, b6⟩
          have H6 := Lib.hid (H5.out.trans (b6.mono H5.out.size))
          clear b6
          go_wp2_with fail
          refine (awake_any σ w6 (HG.out.1.below H6.out)).mono ?_
          rintro e w7 ⟨rfl, b7⟩
          have H7 := Lib.hid (H6.out.trans (b7.mono H6.out.size))
          clear b7
          go_wp2_with fail
          go_ret
          exact ⟨rfl, H7.out⟩
end Go.Proofs.YtgjdoiblgbdebaaDoor
namespace Go.Proofs.YtgjdoiblgbdebaaDoor
open Go.ChangeShapes Go.WideShapes Go.RowKit Go.Deep
set_option maxRecDepth 100000 in
theorem devWakes_lifted (os : Os) (started : os.Started) (H : Type) (enc : TypeId × Value → H) :
    ReturnsInHanded {} Tryd.checked os 4 .any (fun w args => (Rows.devWakesSpec.pre enc Tryd.prog Tryd.f4 [] false w args ∧ laidMetH Tryd.prog laidH w) ∧ sizedMet enc Tryd.prog Tryd.f4 (OpenSpec.ofChange Rows.devWakesSpec) false w args)
      (Rows.devWakesSpec.post enc Tryd.prog Tryd.f4 false true false false) := by
  refine returnsInHanded_of_change_and (C := Tryd.checked) (X := fun w _ => laidMetH Tryd.prog laidH w) (fun _ _ _ hh h => h.of_heap hh) own started (by kernel_rfl) Tryd.func4
    (ChangeSpec.witness_shaped (enc := enc) (C := Tryd.checked) (os := os) (X := fun w _ => laidMetH Tryd.prog laidH w) false (World.doorLaid Tryd.prog 400 os) #[] 8 rfl (World.shaped_of_RefB (by kernel_rfl) (by kernel_rfl)) (by kernel_rfl) (by kernel_rfl) (by kernel_rfl) (doorH os _)) ?_
  intro W base args ds gs before hval0 hW _ hsz0 hL _
  have hval : ∀ (j : Nat) t v, Tryd.f4.params[j]? = some t → args[j]? = some v → Value.okWide Tryd.prog W .any base t v := hval0
  have hsz : (DataW.weightsEach Tryd.prog (Tryd.f4.params.toList ++ Rows.devWakesSpec.plain.varTypes Tryd.prog) (ds ++ gs)).all (· ≤ reachBytes) = true := hsz0
  have hW' : DataW.Whole enc Tryd.prog Tryd.f4.params.toList Rows.devWakesSpec.vars false W args.toList ds gs before := hW
  obtain ⟨p, q, hA0, hV, rfl, _, _⟩ := hW
  have hA : DataW.TrodAll enc Tryd.prog W 0 (fun _ => true) true Tryd.f4.params.toList args.toList ds p := hA0
  clear hval0 hsz0 hA0
  have hpar : Tryd.f4.params = #[] := Tryd.params4
  rw [hpar] at hA
  obtain ⟨rfl, rfl, rfl⟩ := trodAll_none hA
  obtain ⟨σ, hG, hS⟩ := glH_of hL
  refine (devWakes_any σ W hG hS).mono fun e W' ⟨he, hw⟩ => ?_
  subst he
  exact ⟨_, rfl, law_post (bt := 4) laidOut (by kernel_rfl) (by kernel_rfl) Tryd.underlying4 rfl (fun gs hgs => by subst hgs; rfl) hW' hw⟩
theorem devWakes_holds : Rows.DevWakesSaid :=
  OpenClaim.holds_of_wide 4 Tryd.f4 rfl rfl rfl rfl rfl rfl rfl ⟨rfl, rfl, rfl, rfl, rfl⟩ rfl rfl rfl rfl rfl (by kernel_rfl) Tryd.func4 (by kernel_rfl)
    (of_decide_eq_true (by kernel_rfl)) (by unfold Func.isWrapper; first | (rw [if_pos (by decide +kernel)]; kernel_rfl) | (rw [if_neg (by decide +kernel)]; exact ⟨rfl, rfl⟩))
    (fun os started H enc _ => devWakes_lifted os started H enc)
theorem devWakes_card : Rows.DevWakesCardSaid :=
  Claim7.holds_tied_plain_at .later [] [.sentinel, .sentinel, .sentinel, .sentinel, .sentinel, .sentinel] true Rows.devWakesCard.stood.harness true
    devWakes_holds (fun _ h => by cases h) (by kernel_rfl) (fun _ h => by cases h) devWakes_row_tie rfl ⟨rfl, rfl⟩ (by kernel_rfl) rfl
    (fun f fn hf hfn => by
      obtain rfl : f = 4 := Option.some.inj ((show Tryd.prog.funcNamed "limpet/limpetlaw03.DevWakes" = some 4 by kernel_rfl).symm.trans hf) |>.symm
      obtain rfl : fn = Tryd.f4 := (Option.some.inj (Tryd.func4.symm.trans hfn)).symm
      exact ⟨by kernel_rfl, fun j t ht => by
        rw [Tryd.params4] at ht
        simp at ht⟩)
    (by kernel_rfl)
#print axioms devWakes_card
end Go.Proofs.YtgjdoiblgbdebaaDoor
