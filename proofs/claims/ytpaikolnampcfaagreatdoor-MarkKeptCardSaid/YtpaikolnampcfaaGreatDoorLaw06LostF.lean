/- MarkLost: the law's walk, of the bound. -/
import Derived.Test.YtpaikolnampcfaaGreatDoorLaw06Base
import Derived.Test.YtpaikolnampcfaaGreatDoorKitBits
namespace Go.Proofs.YtpaikolnampcfaaGreatDoor
open Go.RowKit
theorem sortT_any (w : World) : Calls Tryz.prog 33 #[.bool true] w fun e w' => e = .returned (.tuple #[.int .i64 3, .int .i64 2]) ∧ w = w' := by
  go_enter Tryz.func33, Tryz.ntmps33
  go_wp2_with fail
  go_ret2
  exact ⟨rfl, rfl⟩
theorem sortF_any (w : World) : Calls Tryz.prog 33 #[.bool false] w fun e w' => e = .returned (.tuple #[.int .i64 2, .int .i64 3]) ∧ w = w' := by
  go_enter Tryz.func33, Tryz.ntmps33
  go_wp2_with fail
  go_ret2
  exact ⟨rfl, rfl⟩
set_option maxRecDepth 100000 in
set_option maxHeartbeats 16000000 in
theorem lostF_any (σ : Sen) (τ : SenU) (δ : SenD) (κ : SenK) (w : World) (hG : Gls σ τ δ κ w) (m y : MarkV) (hurt : Int) (mk : Nat) (hmk : mk < 4294967296) :
    Calls Tryz.prog 7 #[m.val, y.val, .bool false, .int .i64 hurt, .int .u32 (mk : Int)] w fun e w' => e = .returned (.bool true) ∧ Below w.heap.size w w' := by
  have hb1 := below_new w (.cells #[.int .i64 m.ver, .int .i64 m.idx, .int .i64 m.term, .int .i64 m.kind, .int .i64 m.void] 26)
  have hb2 := below_new (w.alloc (.cells #[.int .i64 m.ver, .int .i64 m.idx, .int .i64 m.term, .int .i64 m.kind, .int .i64 m.void] 26)) (.cells #[.int .i64 y.ver, .int .i64 y.idx, .int .i64 y.term, .int .i64 y.kind, .int .i64 y.void] 26)
  have hbb := hb1.trans (hb2.mono hb1.size)
  have HM0 := Lib.hid ((BlockIs.made w 26 #[.int .i64 m.ver, .int .i64 m.idx, .int .i64 m.term, .int .i64 m.kind, .int .i64 m.void]).below hb2 (BlockIs.made w 26 #[.int .i64 m.ver, .int .i64 m.idx, .int .i64 m.term, .int .i64 m.kind, .int .i64 m.void]).lt)
  have hY0 := BlockIs.made (w.alloc (.cells #[.int .i64 m.ver, .int .i64 m.idx, .int .i64 m.term, .int .i64 m.kind, .int .i64 m.void] 26)) 26 #[.int .i64 y.ver, .int .i64 y.idx, .int .i64 y.term, .int .i64 y.kind, .int .i64 y.void]
  rw [World.size_alloc] at hY0
  have HY0 := Lib.hid hY0
  have HA := Lib.hid (awake_any σ τ δ κ _ (hG.below hbb))
  have HG := Lib.hid (hG.below hbb)
  have Hb0 := Lib.hid hbb
  obtain ⟨w1, hw1⟩ : ∃ w1, (w.alloc (.cells #[.int .i64 m.ver, .int .i64 m.idx, .int .i64 m.term, .int .i64 m.kind, .int .i64 m.void] 26)).alloc (.cells #[.int .i64 y.ver, .int .i64 y.idx, .int .i64 y.term, .int .i64 y.kind, .int .i64 y.void] 26) = w1 := ⟨_, rfl⟩
  rw [hw1] at HM0 HY0 HA HG Hb0
  have Hw1 := Lib.hid hw1
  have Hmk := Lib.hid hmk
  clear hmk
  have HR := Lib.hid (fun w => kright_any w m)
  have HQ := Lib.hid (fun w => kright_any w y)
  clear hb1 hb2 hbb hY0 hG hw1
  unfold MarkV.val at *
  by_cases hm : m.right
  · rw [decide_eq_true hm] at HR
    have Hm := Lib.hid hm
    clear hm
    by_cases hy : y.right
    · rw [decide_eq_true hy] at HQ
      have Hy := Lib.hid hy
      clear hy
      go_enter Tryz.func7, Tryz.ntmps7
      go_wp2_with fail
      rw [Hw1.out]
      refine HA.out.mono ?_
      rintro e w2 ⟨rfl, hb2⟩
      have M2 := Lib.hid (HM0.out.below hb2 HM0.out.lt)
      have Y2 := Lib.hid (HY0.out.below hb2 HY0.out.lt)
      have B2 := Lib.hid (Hb0.out.trans (hb2.mono Hb0.out.size))
      have G2 := Lib.hid (HG.out.below hb2)
      clear hb2 HA HM0 HY0 HG
      obtain ⟨⟨m0, m1, m2, m3, m4⟩, _⟩ := cells_five M2.out
      go_wp2_with fail
      refine (HR.out _).mono ?_
      rintro e w3 ⟨rfl, hb3⟩
      have M3 := Lib.hid (M2.out.below hb3 M2.out.lt)
      have Y3 := Lib.hid (Y2.out.below hb3 Y2.out.lt)
      have B3 := Lib.hid (B2.out.trans (hb3.mono B2.out.size))
      have G3 := Lib.hid (G2.out.below hb3)
      clear hb3 HR M2 Y2 B2 G2 m0 m1 m2 m3 m4
      obtain ⟨⟨y0, y1, y2, y3, y4⟩, _⟩ := cells_five Y3.out
      go_wp2_with fail
      refine (HQ.out _).mono ?_
      rintro e w4 ⟨rfl, hb4⟩
      have M4 := Lib.hid (M3.out.below hb4 M3.out.lt)
      have Y4 := Lib.hid (Y3.out.below hb4 Y3.out.lt)
      have B4 := Lib.hid (B3.out.trans (hb4.mono B3.out.size))
      have G4 := Lib.hid (G3.out.below hb4)
      clear hb4 HQ M3 Y3 B3 G3 y0 y1 y2 y3 y4
      obtain ⟨f1, f2, f3, f4, f5⟩ := mark_format
      obtain ⟨p1, p2, p3, p4, s1, s2⟩ := mark_over (m := m) (.inl ⟨rfl, rfl⟩ : Two2 2 3) f2 f3 f4 noMark_right Hm.out
      have HMt := Lib.hid (And.intro f1 (And.intro p1 (And.intro p2 (And.intro p3 (And.intro p4 (And.intro s1 (And.intro s2 (And.intro f5 (few_putK f5 2 m)))))))))
      clear f1 f2 f3 f4 f5 p1 p2 p3 p4 s1 s2
      have HN := Lib.hid (OwnT.new (Below.refl w4.heap.size w4) 6 (by decide) (by decide))
      go_wp2_with fail
      refine (sortF_any _).mono ?_
      rintro e w' ⟨rfl, rfl⟩
      go_wp2_with fail
      refine HN.out.mono ?_
      rintro e w5 ⟨h, rfl, k5, hb5⟩
      have M5 := Lib.hid (show Box w5 (fun k => w4.heap.size ≤ k ∧ k < w5.heap.size) w.heap.size _ _ from ⟨M4.out.below hb5 M4.out.lt, fun ht => by have h1 : w4.heap.size ≤ w.heap.size := ht.1; have := M4.out.lt; omega⟩)
      have Y5 := Lib.hid (show Box w5 (fun k => w4.heap.size ≤ k ∧ k < w5.heap.size) (w.heap.size + 1) _ _ from ⟨Y4.out.below hb5 Y4.out.lt, fun ht => by have h1 : w4.heap.size ≤ w.heap.size + 1 := ht.1; have := Y4.out.lt; omega⟩)
      have HF := kformat_any κ G4.out.d G4.out.k k5 (Few.new (B := 6)) (by decide)
      rw [HMt.out.1] at HF
      have HFm := Lib.hid HF
      clear HF k5 hb5 HN M4 Y4
      go_wp2_with fail
      refine HFm.out.mono ?_
      rintro e w6 ⟨rfl, hS⟩
      have M6 := Lib.hid (M5.out.step hS)
      have Y6 := Lib.hid (Y5.out.step hS)
      have HP := kput_any κ G4.out.d G4.out.k hS.own HMt.out.2.2.2.2.2.2.2.1 (by decide) 2 wf2 m
      rw [HMt.out.2.1] at HP
      have HPm := Lib.hid HP
      unfold MarkV.val at HPm
      clear hS HP HFm M5 Y5
      obtain ⟨⟨m0, m1, m2, m3, m4⟩, _⟩ := cells_five M6.out.blk
      go_wp2_with fail
      refine HPm.out.mono ?_
      rintro e w7 ⟨rfl, hS⟩
      have K7 := Lib.hid hS.own
      have M7 := Lib.hid (M6.out.step hS)
      have Y7 := Lib.hid (Y6.out.step hS)
      clear hS HPm M6 Y6 m0 m1 m2 m3 m4
      have he1 := and_one hurt
      have he2 := and_one (hurt / 2)
      have he3 := and_three hurt
      obtain ⟨r7, hr7⟩ : ∃ r, hurt % 8 = r := ⟨_, rfl⟩
      have h70 : 0 ≤ r7 := by omega
      have h71 : r7 ≤ 7 := by omega
      have Hr7 := Lib.hid (And.intro h70 h71)
      have e7 : bits .and .i64 hurt 7 = r7 := (and_seven hurt).trans hr7
      obtain ⟨ho1, ho2, ho3⟩ := or_one mk Hmk.out
      obtain ⟨mo, hmo⟩ : ∃ x, mk ||| 1 = x := ⟨_, rfl⟩
      rw [hmo] at ho1 ho2 ho3
      have Hmo := Lib.hid (And.intro ho2 ho3)
      clear hr7 ho2 ho3 hmo
      by_cases hu : hurt % 2 = 1
      · have e1 : bits .and .i64 hurt 1 = 1 := by omega
        by_cases hv : hurt / 2 % 2 = 1
        · have e2 : bits .and .i64 (hurt / 2) 1 = 1 := by omega
          have e3 : bits .and .i64 hurt 3 = 3 := by omega
          clear he1 he2 he3 hu hv
          have ML : ((putK (formatK (DM.new 6)).2 2 m).2.rot 2 (8 * r7) mo).1 = 0 ∧ (((putK (formatK (DM.new 6)).2 2 m).2.rot 2 (8 * r7) mo).2.rot 3 (8 * r7) mo).1 = 0 ∧ getK (((putK (formatK (DM.new 6)).2 2 m).2.rot 2 (8 * r7) mo).2.rot 3 (8 * r7) mo).2 2 = (noMark, 10) ∧ getK (((putK (formatK (DM.new 6)).2 2 m).2.rot 2 (8 * r7) mo).2.rot 3 (8 * r7) mo).2 3 = (noMark, 0) ∧ (putK (((putK (formatK (DM.new 6)).2 2 m).2.rot 2 (8 * r7) mo).2.rot 3 (8 * r7) mo).2 2 y).1 = 0 ∧ getK (putK (((putK (formatK (DM.new 6)).2 2 m).2.rot 2 (8 * r7) mo).2.rot 3 (8 * r7) mo).2 2 y).2 2 = (y, 0) := by
            have hx := mark_lost (.inl ⟨rfl, rfl⟩ : Two2 2 3) Hm.out noMark_right Hy.out HMt.out.2.2.1 HMt.out.2.2.2.1 HMt.out.2.2.2.2.1 HMt.out.2.2.2.2.2.1 HMt.out.2.2.2.2.2.2.1 (8 * r7) (by have := Hr7.out; omega) mo Hmo.out.2 true true
            exact hx
          have HL := Lib.hid ML
          clear ML
          go_wp2_with fail
          refine wp_loop_rounds 3 ?_
          rw [rounds_succ]
          have HRt := rot_stp G4.out.d G4.out.s K7.out 2 (8 * r7) mo Hmo.out.1
          rw [HL.out.1] at HRt
          have HRm := Lib.hid HRt
          clear HRt
          go_wp2_with fail
          refine HRm.out.mono ?_
          rintro e w8 ⟨rfl, hS⟩
          have K8 := Lib.hid hS.own
          have M8 := Lib.hid (M7.out.step hS)
          have Y8 := Lib.hid (Y7.out.step hS)
          clear hS HRm K7 M7 Y7
          go_wp2_with fail
          rw [rounds_succ]
          have HRt := rot_stp G4.out.d G4.out.s K8.out 3 (8 * r7) mo Hmo.out.1
          rw [HL.out.2.1] at HRt
          have HRm := Lib.hid HRt
          clear HRt
          go_wp2_with fail
          refine HRm.out.mono ?_
          rintro e w9 ⟨rfl, hS⟩
          have K9 := Lib.hid hS.own
          have M9 := Lib.hid (M8.out.step hS)
          have Y9 := Lib.hid (Y8.out.step hS)
          clear hS HRm K8 M8 Y8
          go_wp2_with fail
          rw [rounds_succ]
          have HGt := kGet_any σ τ κ G4.out.c G4.out.u G4.out.d G4.out.k K9.out 2 wf2
          rw [HL.out.2.2.1] at HGt
          have HGm := Lib.hid HGt
          rw [show noMark.val = .agg #[.int .i64 0, .int .i64 0, .int .i64 0, .int .i64 0, .int .i64 0] from rfl] at HGm
          simp only at HGm
          clear HGt
          go_wp2_with fail
          refine HGm.out.mono ?_
          rintro e w10 ⟨rfl, hb10⟩
          have hb11 := hb10.trans ((below_new w10 (.cells #[.int .i64 0, .int .i64 0, .int .i64 0, .int .i64 0, .int .i64 0] 26)).mono hb10.size)
          have K11 := Lib.hid (K9.out.on hb11)
          have M11 := Lib.hid (M9.out.on hb11)
          have Y11 := Lib.hid (Y9.out.on hb11)
          have X11 := Lib.hid (show Box _ _ _ _ _ from ⟨BlockIs.made w10 26 #[.int .i64 0, .int .i64 0, .int .i64 0, .int .i64 0, .int .i64 0], fun ht => by have := K9.out.foot _ ht; have := hb10.size; omega⟩)
          have HGt := kGet_any σ τ κ G4.out.c G4.out.u G4.out.d G4.out.k K11.out 3 wf3
          rw [HL.out.2.2.2.1] at HGt
          have HHm := Lib.hid HGt
          rw [show noMark.val = .agg #[.int .i64 0, .int .i64 0, .int .i64 0, .int .i64 0, .int .i64 0] from rfl] at HHm
          obtain ⟨w11, hw11⟩ : ∃ w11, w10.alloc (.cells #[.int .i64 0, .int .i64 0, .int .i64 0, .int .i64 0, .int .i64 0] 26) = w11 := ⟨_, rfl⟩
          rw [hw11] at K11 M11 Y11 X11 HHm
          have Hw11 := Lib.hid hw11
          clear hb10 hb11 HGt hw11 HGm K9 M9 Y9
          go_wp2_with fail
          rw [Hw11.out]
          refine HHm.out.mono ?_
          rintro e w12 ⟨rfl, hb12⟩
          have hb13 := hb12.trans ((below_new w12 (.cells #[.int .i64 0, .int .i64 0, .int .i64 0, .int .i64 0, .int .i64 0] 26)).mono hb12.size)
          have K13 := Lib.hid (K11.out.on hb13)
          have M13 := Lib.hid (M11.out.on hb13)
          have Y13 := Lib.hid (Y11.out.on hb13)
          have X13 := Lib.hid (X11.out.on hb13)
          have Z13 := Lib.hid (show Box _ _ _ _ _ from ⟨BlockIs.made w12 26 #[.int .i64 0, .int .i64 0, .int .i64 0, .int .i64 0, .int .i64 0], fun ht => by have := K11.out.foot _ ht; have := hb12.size; omega⟩)
          have HPt := kput_any κ G4.out.d G4.out.k K13.out (few_rot (few_rot (HMt.out.2.2.2.2.2.2.2.2 : (putK (formatK (DM.new 6)).2 2 m).2.Few (8 + 4)) 2 (8 * r7) mo) 3 (8 * r7) mo) (by decide) 2 wf2 y
          rw [HL.out.2.2.2.2.1] at HPt
          have HPm := Lib.hid HPt
          unfold MarkV.val at HPm
          obtain ⟨w13, hw13⟩ : ∃ w13, w12.alloc (.cells #[.int .i64 0, .int .i64 0, .int .i64 0, .int .i64 0, .int .i64 0] 26) = w13 := ⟨_, rfl⟩
          rw [hw13] at K13 M13 Y13 X13 Z13 HPm
          have Hw13 := Lib.hid hw13
          obtain ⟨⟨m0, m1, m2, m3, m4⟩, _⟩ := cells_five M13.out.blk
          obtain ⟨⟨y0, y1, y2, y3, y4⟩, _⟩ := cells_five Y13.out.blk
          obtain ⟨⟨x0, x1, x2, x3, x4⟩, _⟩ := cells_five X13.out.blk
          obtain ⟨⟨z0, z1, z2, z3, z4⟩, _⟩ := cells_five Z13.out.blk
          clear hb12 hb13 HPt hw13 HHm K11 M11 Y11 X11
          rw [← Hw13.out] at m0 m1 m2 m3 m4 y0 y1 y2 y3 y4 x0 x1 x2 x3 x4 z0 z1 z2 z3 z4
          go_wp2_with fail
          rw [Hw13.out]
          refine HPm.out.mono ?_
          rintro e w14 ⟨rfl, hS⟩
          have K14 := Lib.hid hS.own
          have Y14 := Lib.hid (Y13.out.step hS)
          have HGt := kGet_any σ τ κ G4.out.c G4.out.u G4.out.d G4.out.k hS.own 2 wf2
          rw [HL.out.2.2.2.2.2] at HGt
          have HGm := Lib.hid HGt
          unfold MarkV.val at HGm
          clear hS HGt HPm K13 M13 Y13 X13 Z13 m0 m1 m2 m3 m4 y0 y1 y2 y3 y4 x0 x1 x2 x3 x4 z0 z1 z2 z3 z4
          go_wp2_with fail
          refine HGm.out.mono ?_
          rintro e w15 ⟨rfl, hb15⟩
          have hb16 := hb15.trans ((below_new w15 (.cells #[.int .i64 y.ver, .int .i64 y.idx, .int .i64 y.term, .int .i64 y.kind, .int .i64 y.void] 26)).mono hb15.size)
          have B16 := Lib.hid (B4.out.trans ((K14.out.below.trans (hb16.mono K14.out.below.size)).mono B4.out.size))
          have Y16 := Lib.hid (Y14.out.blk.below hb16 Y14.out.blk.lt)
          have X16 := Lib.hid (BlockIs.made w15 26 #[.int .i64 y.ver, .int .i64 y.idx, .int .i64 y.term, .int .i64 y.kind, .int .i64 y.void])
          clear hb15 hb16 HGm
          obtain ⟨⟨y0, y1, y2, y3, y4⟩, _⟩ := cells_five Y16.out
          obtain ⟨⟨x0, x1, x2, x3, x4⟩, _⟩ := cells_five X16.out
          go_wp2_with fail
          go_ret
          exact ⟨rfl, B16.out⟩
        · have e2 : bits .and .i64 (hurt / 2) 1 = 0 := by omega
          have e3 : bits .and .i64 hurt 3 = 1 := by omega
          clear he1 he2 he3 hu hv
          have ML : ((putK (formatK (DM.new 6)).2 2 m).2.rot 2 (8 * r7) mo).1 = 0 ∧ (((putK (formatK (DM.new 6)).2 2 m).2.rot 2 (8 * r7) mo).2.rot 3 (8 * r7) mo).1 = 0 ∧ getK ((putK (formatK (DM.new 6)).2 2 m).2.rot 2 (8 * r7) mo).2 2 = (m, 0) ∧ getK ((putK (formatK (DM.new 6)).2 2 m).2.rot 2 (8 * r7) mo).2 3 = (noMark, 0) ∧ (putK ((putK (formatK (DM.new 6)).2 2 m).2.rot 2 (8 * r7) mo).2 2 y).1 = 0 ∧ getK (putK ((putK (formatK (DM.new 6)).2 2 m).2.rot 2 (8 * r7) mo).2 2 y).2 2 = (y, 0) := by
            have hx := mark_lost (.inl ⟨rfl, rfl⟩ : Two2 2 3) Hm.out noMark_right Hy.out HMt.out.2.2.1 HMt.out.2.2.2.1 HMt.out.2.2.2.2.1 HMt.out.2.2.2.2.2.1 HMt.out.2.2.2.2.2.2.1 (8 * r7) (by have := Hr7.out; omega) mo Hmo.out.2 true false
            exact hx
          have HL := Lib.hid ML
          clear ML
          go_wp2_with fail
          refine wp_loop_rounds 3 ?_
          rw [rounds_succ]
          have HRt := rot_stp G4.out.d G4.out.s K7.out 2 (8 * r7) mo Hmo.out.1
          rw [HL.out.1] at HRt
          have HRm := Lib.hid HRt
          clear HRt
          go_wp2_with fail
          refine HRm.out.mono ?_
          rintro e w8 ⟨rfl, hS⟩
          have K8 := Lib.hid hS.own
          have M8 := Lib.hid (M7.out.step hS)
          have Y8 := Lib.hid (Y7.out.step hS)
          clear hS HRm K7 M7 Y7
          go_wp2_with fail
          rw [rounds_succ]
          go_wp2_with fail
          rw [rounds_succ]
          have HGt := kGet_any σ τ κ G4.out.c G4.out.u G4.out.d G4.out.k K8.out 2 wf2
          rw [HL.out.2.2.1] at HGt
          have HGm := Lib.hid HGt
          unfold MarkV.val at HGm
          simp only at HGm
          clear HGt
          go_wp2_with fail
          refine HGm.out.mono ?_
          rintro e w10 ⟨rfl, hb10⟩
          have hb11 := hb10.trans ((below_new w10 (.cells #[.int .i64 m.ver, .int .i64 m.idx, .int .i64 m.term, .int .i64 m.kind, .int .i64 m.void] 26)).mono hb10.size)
          have K11 := Lib.hid (K8.out.on hb11)
          have M11 := Lib.hid (M8.out.on hb11)
          have Y11 := Lib.hid (Y8.out.on hb11)
          have X11 := Lib.hid (show Box _ _ _ _ _ from ⟨BlockIs.made w10 26 #[.int .i64 m.ver, .int .i64 m.idx, .int .i64 m.term, .int .i64 m.kind, .int .i64 m.void], fun ht => by have := K8.out.foot _ ht; have := hb10.size; omega⟩)
          have HGt := kGet_any σ τ κ G4.out.c G4.out.u G4.out.d G4.out.k K11.out 3 wf3
          rw [HL.out.2.2.2.1] at HGt
          have HHm := Lib.hid HGt
          rw [show noMark.val = .agg #[.int .i64 0, .int .i64 0, .int .i64 0, .int .i64 0, .int .i64 0] from rfl] at HHm
          obtain ⟨w11, hw11⟩ : ∃ w11, w10.alloc (.cells #[.int .i64 m.ver, .int .i64 m.idx, .int .i64 m.term, .int .i64 m.kind, .int .i64 m.void] 26) = w11 := ⟨_, rfl⟩
          rw [hw11] at K11 M11 Y11 X11 HHm
          have Hw11 := Lib.hid hw11
          clear hb10 hb11 HGt hw11 HGm K8 M8 Y8
          go_wp2_with fail
          rw [Hw11.out]
          refine HHm.out.mono ?_
          rintro e w12 ⟨rfl, hb12⟩
          have hb13 := hb12.trans ((below_new w12 (.cells #[.int .i64 0, .int .i64 0, .int .i64 0, .int .i64 0, .int .i64 0] 26)).mono hb12.size)
          have K13 := Lib.hid (K11.out.on hb13)
          have M13 := Lib.hid (M11.out.on hb13)
          have Y13 := Lib.hid (Y11.out.on hb13)
          have X13 := Lib.hid (X11.out.on hb13)
          have Z13 := Lib.hid (show Box _ _ _ _ _ from ⟨BlockIs.made w12 26 #[.int .i64 0, .int .i64 0, .int .i64 0, .int .i64 0, .int .i64 0], fun ht => by have := K11.out.foot _ ht; have := hb12.size; omega⟩)
          have HPt := kput_any κ G4.out.d G4.out.k K13.out (few_rot (HMt.out.2.2.2.2.2.2.2.2 : (putK (formatK (DM.new 6)).2 2 m).2.Few (8 + 4)) 2 (8 * r7) mo) (by decide) 2 wf2 y
          rw [HL.out.2.2.2.2.1] at HPt
          have HPm := Lib.hid HPt
          unfold MarkV.val at HPm
          obtain ⟨w13, hw13⟩ : ∃ w13, w12.alloc (.cells #[.int .i64 0, .int .i64 0, .int .i64 0, .int .i64 0, .int .i64 0] 26) = w13 := ⟨_, rfl⟩
          rw [hw13] at K13 M13 Y13 X13 Z13 HPm
          have Hw13 := Lib.hid hw13
          obtain ⟨⟨m0, m1, m2, m3, m4⟩, _⟩ := cells_five M13.out.blk
          obtain ⟨⟨y0, y1, y2, y3, y4⟩, _⟩ := cells_five Y13.out.blk
          obtain ⟨⟨x0, x1, x2, x3, x4⟩, _⟩ := cells_five X13.out.blk
          obtain ⟨⟨z0, z1, z2, z3, z4⟩, _⟩ := cells_five Z13.out.blk
          clear hb12 hb13 HPt hw13 HHm K11 M11 Y11 X11
          rw [← Hw13.out] at m0 m1 m2 m3 m4 y0 y1 y2 y3 y4 x0 x1 x2 x3 x4 z0 z1 z2 z3 z4
          go_wp2_with fail
          rw [Hw13.out]
          refine HPm.out.mono ?_
          rintro e w14 ⟨rfl, hS⟩
          have K14 := Lib.hid hS.own
          have Y14 := Lib.hid (Y13.out.step hS)
          have HGt := kGet_any σ τ κ G4.out.c G4.out.u G4.out.d G4.out.k hS.own 2 wf2
          rw [HL.out.2.2.2.2.2] at HGt
          have HGm := Lib.hid HGt
          unfold MarkV.val at HGm
          clear hS HGt HPm K13 M13 Y13 X13 Z13 m0 m1 m2 m3 m4 y0 y1 y2 y3 y4 x0 x1 x2 x3 x4 z0 z1 z2 z3 z4
          go_wp2_with fail
          refine HGm.out.mono ?_
          rintro e w15 ⟨rfl, hb15⟩
          have hb16 := hb15.trans ((below_new w15 (.cells #[.int .i64 y.ver, .int .i64 y.idx, .int .i64 y.term, .int .i64 y.kind, .int .i64 y.void] 26)).mono hb15.size)
          have B16 := Lib.hid (B4.out.trans ((K14.out.below.trans (hb16.mono K14.out.below.size)).mono B4.out.size))
          have Y16 := Lib.hid (Y14.out.blk.below hb16 Y14.out.blk.lt)
          have X16 := Lib.hid (BlockIs.made w15 26 #[.int .i64 y.ver, .int .i64 y.idx, .int .i64 y.term, .int .i64 y.kind, .int .i64 y.void])
          clear hb15 hb16 HGm
          obtain ⟨⟨y0, y1, y2, y3, y4⟩, _⟩ := cells_five Y16.out
          obtain ⟨⟨x0, x1, x2, x3, x4⟩, _⟩ := cells_five X16.out
          go_wp2_with fail
          go_ret
          exact ⟨rfl, B16.out⟩
      · have e1 : bits .and .i64 hurt 1 = 0 := by omega
        by_cases hv : hurt / 2 % 2 = 1
        · have e2 : bits .and .i64 (hurt / 2) 1 = 1 := by omega
          have e3 : bits .and .i64 hurt 3 = 2 := by omega
          clear he1 he2 he3 hu hv
          have ML : ((putK (formatK (DM.new 6)).2 2 m).2.rot 2 (8 * r7) mo).1 = 0 ∧ ((putK (formatK (DM.new 6)).2 2 m).2.rot 3 (8 * r7) mo).1 = 0 ∧ getK ((putK (formatK (DM.new 6)).2 2 m).2.rot 3 (8 * r7) mo).2 2 = (m, 0) ∧ getK ((putK (formatK (DM.new 6)).2 2 m).2.rot 3 (8 * r7) mo).2 3 = (noMark, 0) ∧ (putK ((putK (formatK (DM.new 6)).2 2 m).2.rot 3 (8 * r7) mo).2 2 y).1 = 0 ∧ getK (putK ((putK (formatK (DM.new 6)).2 2 m).2.rot 3 (8 * r7) mo).2 2 y).2 2 = (y, 0) := by
            have hx := mark_lost (.inl ⟨rfl, rfl⟩ : Two2 2 3) Hm.out noMark_right Hy.out HMt.out.2.2.1 HMt.out.2.2.2.1 HMt.out.2.2.2.2.1 HMt.out.2.2.2.2.2.1 HMt.out.2.2.2.2.2.2.1 (8 * r7) (by have := Hr7.out; omega) mo Hmo.out.2 false true
            exact hx
          have HL := Lib.hid ML
          clear ML
          go_wp2_with fail
          refine wp_loop_rounds 3 ?_
          rw [rounds_succ]
          go_wp2_with fail
          rw [rounds_succ]
          have HRt := rot_stp G4.out.d G4.out.s K7.out 3 (8 * r7) mo Hmo.out.1
          rw [HL.out.2.1] at HRt
          have HRm := Lib.hid HRt
          clear HRt
          go_wp2_with fail
          refine HRm.out.mono ?_
          rintro e w9 ⟨rfl, hS⟩
          have K9 := Lib.hid hS.own
          have M9 := Lib.hid (M7.out.step hS)
          have Y9 := Lib.hid (Y7.out.step hS)
          clear hS HRm K7 M7 Y7
          go_wp2_with fail
          rw [rounds_succ]
          have HGt := kGet_any σ τ κ G4.out.c G4.out.u G4.out.d G4.out.k K9.out 2 wf2
          rw [HL.out.2.2.1] at HGt
          have HGm := Lib.hid HGt
          unfold MarkV.val at HGm
          simp only at HGm
          clear HGt
          go_wp2_with fail
          refine HGm.out.mono ?_
          rintro e w10 ⟨rfl, hb10⟩
          have hb11 := hb10.trans ((below_new w10 (.cells #[.int .i64 m.ver, .int .i64 m.idx, .int .i64 m.term, .int .i64 m.kind, .int .i64 m.void] 26)).mono hb10.size)
          have K11 := Lib.hid (K9.out.on hb11)
          have M11 := Lib.hid (M9.out.on hb11)
          have Y11 := Lib.hid (Y9.out.on hb11)
          have X11 := Lib.hid (show Box _ _ _ _ _ from ⟨BlockIs.made w10 26 #[.int .i64 m.ver, .int .i64 m.idx, .int .i64 m.term, .int .i64 m.kind, .int .i64 m.void], fun ht => by have := K9.out.foot _ ht; have := hb10.size; omega⟩)
          have HGt := kGet_any σ τ κ G4.out.c G4.out.u G4.out.d G4.out.k K11.out 3 wf3
          rw [HL.out.2.2.2.1] at HGt
          have HHm := Lib.hid HGt
          rw [show noMark.val = .agg #[.int .i64 0, .int .i64 0, .int .i64 0, .int .i64 0, .int .i64 0] from rfl] at HHm
          obtain ⟨w11, hw11⟩ : ∃ w11, w10.alloc (.cells #[.int .i64 m.ver, .int .i64 m.idx, .int .i64 m.term, .int .i64 m.kind, .int .i64 m.void] 26) = w11 := ⟨_, rfl⟩
          rw [hw11] at K11 M11 Y11 X11 HHm
          have Hw11 := Lib.hid hw11
          clear hb10 hb11 HGt hw11 HGm K9 M9 Y9
          go_wp2_with fail
          rw [Hw11.out]
          refine HHm.out.mono ?_
          rintro e w12 ⟨rfl, hb12⟩
          have hb13 := hb12.trans ((below_new w12 (.cells #[.int .i64 0, .int .i64 0, .int .i64 0, .int .i64 0, .int .i64 0] 26)).mono hb12.size)
          have K13 := Lib.hid (K11.out.on hb13)
          have M13 := Lib.hid (M11.out.on hb13)
          have Y13 := Lib.hid (Y11.out.on hb13)
          have X13 := Lib.hid (X11.out.on hb13)
          have Z13 := Lib.hid (show Box _ _ _ _ _ from ⟨BlockIs.made w12 26 #[.int .i64 0, .int .i64 0, .int .i64 0, .int .i64 0, .int .i64 0], fun ht => by have := K11.out.foot _ ht; have := hb12.size; omega⟩)
          have HPt := kput_any κ G4.out.d G4.out.k K13.out (few_rot (HMt.out.2.2.2.2.2.2.2.2 : (putK (formatK (DM.new 6)).2 2 m).2.Few (8 + 4)) 3 (8 * r7) mo) (by decide) 2 wf2 y
          rw [HL.out.2.2.2.2.1] at HPt
          have HPm := Lib.hid HPt
          unfold MarkV.val at HPm
          obtain ⟨w13, hw13⟩ : ∃ w13, w12.alloc (.cells #[.int .i64 0, .int .i64 0, .int .i64 0, .int .i64 0, .int .i64 0] 26) = w13 := ⟨_, rfl⟩
          rw [hw13] at K13 M13 Y13 X13 Z13 HPm
          have Hw13 := Lib.hid hw13
          obtain ⟨⟨m0, m1, m2, m3, m4⟩, _⟩ := cells_five M13.out.blk
          obtain ⟨⟨y0, y1, y2, y3, y4⟩, _⟩ := cells_five Y13.out.blk
          obtain ⟨⟨x0, x1, x2, x3, x4⟩, _⟩ := cells_five X13.out.blk
          obtain ⟨⟨z0, z1, z2, z3, z4⟩, _⟩ := cells_five Z13.out.blk
          clear hb12 hb13 HPt hw13 HHm K11 M11 Y11 X11
          rw [← Hw13.out] at m0 m1 m2 m3 m4 y0 y1 y2 y3 y4 x0 x1 x2 x3 x4 z0 z1 z2 z3 z4
          go_wp2_with fail
          rw [Hw13.out]
          refine HPm.out.mono ?_
          rintro e w14 ⟨rfl, hS⟩
          have K14 := Lib.hid hS.own
          have Y14 := Lib.hid (Y13.out.step hS)
          have HGt := kGet_any σ τ κ G4.out.c G4.out.u G4.out.d G4.out.k hS.own 2 wf2
          rw [HL.out.2.2.2.2.2] at HGt
          have HGm := Lib.hid HGt
          unfold MarkV.val at HGm
          clear hS HGt HPm K13 M13 Y13 X13 Z13 m0 m1 m2 m3 m4 y0 y1 y2 y3 y4 x0 x1 x2 x3 x4 z0 z1 z2 z3 z4
          go_wp2_with fail
          refine HGm.out.mono ?_
          rintro e w15 ⟨rfl, hb15⟩
          have hb16 := hb15.trans ((below_new w15 (.cells #[.int .i64 y.ver, .int .i64 y.idx, .int .i64 y.term, .int .i64 y.kind, .int .i64 y.void] 26)).mono hb15.size)
          have B16 := Lib.hid (B4.out.trans ((K14.out.below.trans (hb16.mono K14.out.below.size)).mono B4.out.size))
          have Y16 := Lib.hid (Y14.out.blk.below hb16 Y14.out.blk.lt)
          have X16 := Lib.hid (BlockIs.made w15 26 #[.int .i64 y.ver, .int .i64 y.idx, .int .i64 y.term, .int .i64 y.kind, .int .i64 y.void])
          clear hb15 hb16 HGm
          obtain ⟨⟨y0, y1, y2, y3, y4⟩, _⟩ := cells_five Y16.out
          obtain ⟨⟨x0, x1, x2, x3, x4⟩, _⟩ := cells_five X16.out
          go_wp2_with fail
          go_ret
          exact ⟨rfl, B16.out⟩
        · have e2 : bits .and .i64 (hurt / 2) 1 = 0 := by omega
          have e3 : bits .and .i64 hurt 3 = 0 := by omega
          clear he1 he2 he3 hu hv
          have ML : ((putK (formatK (DM.new 6)).2 2 m).2.rot 2 (8 * r7) mo).1 = 0 ∧ ((putK (formatK (DM.new 6)).2 2 m).2.rot 3 (8 * r7) mo).1 = 0 ∧ getK (putK (formatK (DM.new 6)).2 2 m).2 2 = (m, 0) ∧ getK (putK (formatK (DM.new 6)).2 2 m).2 3 = (noMark, 0) ∧ (putK (putK (formatK (DM.new 6)).2 2 m).2 2 y).1 = 0 ∧ getK (putK (putK (formatK (DM.new 6)).2 2 m).2 2 y).2 2 = (y, 0) := by
            have hx := mark_lost (.inl ⟨rfl, rfl⟩ : Two2 2 3) Hm.out noMark_right Hy.out HMt.out.2.2.1 HMt.out.2.2.2.1 HMt.out.2.2.2.2.1 HMt.out.2.2.2.2.2.1 HMt.out.2.2.2.2.2.2.1 (8 * r7) (by have := Hr7.out; omega) mo Hmo.out.2 false false
            exact hx
          have HL := Lib.hid ML
          clear ML
          go_wp2_with fail
          refine wp_loop_rounds 3 ?_
          rw [rounds_succ]
          go_wp2_with fail
          rw [rounds_succ]
          go_wp2_with fail
          rw [rounds_succ]
          have HGt := kGet_any σ τ κ G4.out.c G4.out.u G4.out.d G4.out.k K7.out 2 wf2
          rw [HL.out.2.2.1] at HGt
          have HGm := Lib.hid HGt
          unfold MarkV.val at HGm
          simp only at HGm
          clear HGt
          go_wp2_with fail
          refine HGm.out.mono ?_
          rintro e w10 ⟨rfl, hb10⟩
          have hb11 := hb10.trans ((below_new w10 (.cells #[.int .i64 m.ver, .int .i64 m.idx, .int .i64 m.term, .int .i64 m.kind, .int .i64 m.void] 26)).mono hb10.size)
          have K11 := Lib.hid (K7.out.on hb11)
          have M11 := Lib.hid (M7.out.on hb11)
          have Y11 := Lib.hid (Y7.out.on hb11)
          have X11 := Lib.hid (show Box _ _ _ _ _ from ⟨BlockIs.made w10 26 #[.int .i64 m.ver, .int .i64 m.idx, .int .i64 m.term, .int .i64 m.kind, .int .i64 m.void], fun ht => by have := K7.out.foot _ ht; have := hb10.size; omega⟩)
          have HGt := kGet_any σ τ κ G4.out.c G4.out.u G4.out.d G4.out.k K11.out 3 wf3
          rw [HL.out.2.2.2.1] at HGt
          have HHm := Lib.hid HGt
          rw [show noMark.val = .agg #[.int .i64 0, .int .i64 0, .int .i64 0, .int .i64 0, .int .i64 0] from rfl] at HHm
          obtain ⟨w11, hw11⟩ : ∃ w11, w10.alloc (.cells #[.int .i64 m.ver, .int .i64 m.idx, .int .i64 m.term, .int .i64 m.kind, .int .i64 m.void] 26) = w11 := ⟨_, rfl⟩
          rw [hw11] at K11 M11 Y11 X11 HHm
          have Hw11 := Lib.hid hw11
          clear hb10 hb11 HGt hw11 HGm K7 M7 Y7
          go_wp2_with fail
          rw [Hw11.out]
          refine HHm.out.mono ?_
          rintro e w12 ⟨rfl, hb12⟩
          have hb13 := hb12.trans ((below_new w12 (.cells #[.int .i64 0, .int .i64 0, .int .i64 0, .int .i64 0, .int .i64 0] 26)).mono hb12.size)
          have K13 := Lib.hid (K11.out.on hb13)
          have M13 := Lib.hid (M11.out.on hb13)
          have Y13 := Lib.hid (Y11.out.on hb13)
          have X13 := Lib.hid (X11.out.on hb13)
          have Z13 := Lib.hid (show Box _ _ _ _ _ from ⟨BlockIs.made w12 26 #[.int .i64 0, .int .i64 0, .int .i64 0, .int .i64 0, .int .i64 0], fun ht => by have := K11.out.foot _ ht; have := hb12.size; omega⟩)
          have HPt := kput_any κ G4.out.d G4.out.k K13.out (HMt.out.2.2.2.2.2.2.2.2 : (putK (formatK (DM.new 6)).2 2 m).2.Few (8 + 4)) (by decide) 2 wf2 y
          rw [HL.out.2.2.2.2.1] at HPt
          have HPm := Lib.hid HPt
          unfold MarkV.val at HPm
          obtain ⟨w13, hw13⟩ : ∃ w13, w12.alloc (.cells #[.int .i64 0, .int .i64 0, .int .i64 0, .int .i64 0, .int .i64 0] 26) = w13 := ⟨_, rfl⟩
          rw [hw13] at K13 M13 Y13 X13 Z13 HPm
          have Hw13 := Lib.hid hw13
          obtain ⟨⟨m0, m1, m2, m3, m4⟩, _⟩ := cells_five M13.out.blk
          obtain ⟨⟨y0, y1, y2, y3, y4⟩, _⟩ := cells_five Y13.out.blk
          obtain ⟨⟨x0, x1, x2, x3, x4⟩, _⟩ := cells_five X13.out.blk
          obtain ⟨⟨z0, z1, z2, z3, z4⟩, _⟩ := cells_five Z13.out.blk
          clear hb12 hb13 HPt hw13 HHm K11 M11 Y11 X11
          rw [← Hw13.out] at m0 m1 m2 m3 m4 y0 y1 y2 y3 y4 x0 x1 x2 x3 x4 z0 z1 z2 z3 z4
          go_wp2_with fail
          rw [Hw13.out]
          refine HPm.out.mono ?_
          rintro e w14 ⟨rfl, hS⟩
          have K14 := Lib.hid hS.own
          have Y14 := Lib.hid (Y13.out.step hS)
          have HGt := kGet_any σ τ κ G4.out.c G4.out.u G4.out.d G4.out.k hS.own 2 wf2
          rw [HL.out.2.2.2.2.2] at HGt
          have HGm := Lib.hid HGt
          unfold MarkV.val at HGm
          clear hS HGt HPm K13 M13 Y13 X13 Z13 m0 m1 m2 m3 m4 y0 y1 y2 y3 y4 x0 x1 x2 x3 x4 z0 z1 z2 z3 z4
          go_wp2_with fail
          refine HGm.out.mono ?_
          rintro e w15 ⟨rfl, hb15⟩
          have hb16 := hb15.trans ((below_new w15 (.cells #[.int .i64 y.ver, .int .i64 y.idx, .int .i64 y.term, .int .i64 y.kind, .int .i64 y.void] 26)).mono hb15.size)
          have B16 := Lib.hid (B4.out.trans ((K14.out.below.trans (hb16.mono K14.out.below.size)).mono B4.out.size))
          have Y16 := Lib.hid (Y14.out.blk.below hb16 Y14.out.blk.lt)
          have X16 := Lib.hid (BlockIs.made w15 26 #[.int .i64 y.ver, .int .i64 y.idx, .int .i64 y.term, .int .i64 y.kind, .int .i64 y.void])
          clear hb15 hb16 HGm
          obtain ⟨⟨y0, y1, y2, y3, y4⟩, _⟩ := cells_five Y16.out
          obtain ⟨⟨x0, x1, x2, x3, x4⟩, _⟩ := cells_five X16.out
          go_wp2_with fail
          go_ret
          exact ⟨rfl, B16.out⟩
    · rw [decide_eq_false hy] at HQ
      clear hy
      go_enter Tryz.func7, Tryz.ntmps7
      go_wp2_with fail
      rw [Hw1.out]
      refine HA.out.mono ?_
      rintro e w2 ⟨rfl, hb2⟩
      have M2 := Lib.hid (HM0.out.below hb2 HM0.out.lt)
      have Y2 := Lib.hid (HY0.out.below hb2 HY0.out.lt)
      have B2 := Lib.hid (Hb0.out.trans (hb2.mono Hb0.out.size))
      have G2 := Lib.hid (HG.out.below hb2)
      clear hb2 HA HM0 HY0 HG
      obtain ⟨⟨m0, m1, m2, m3, m4⟩, _⟩ := cells_five M2.out
      go_wp2_with fail
      refine (HR.out _).mono ?_
      rintro e w3 ⟨rfl, hb3⟩
      have M3 := Lib.hid (M2.out.below hb3 M2.out.lt)
      have Y3 := Lib.hid (Y2.out.below hb3 Y2.out.lt)
      have B3 := Lib.hid (B2.out.trans (hb3.mono B2.out.size))
      have G3 := Lib.hid (G2.out.below hb3)
      clear hb3 HR M2 Y2 B2 G2 m0 m1 m2 m3 m4
      obtain ⟨⟨y0, y1, y2, y3, y4⟩, _⟩ := cells_five Y3.out
      go_wp2_with fail
      refine (HQ.out _).mono ?_
      rintro e w4 ⟨rfl, hb4⟩
      have M4 := Lib.hid (M3.out.below hb4 M3.out.lt)
      have Y4 := Lib.hid (Y3.out.below hb4 Y3.out.lt)
      have B4 := Lib.hid (B3.out.trans (hb4.mono B3.out.size))
      have G4 := Lib.hid (G3.out.below hb4)
      clear hb4 HQ M3 Y3 B3 G3 y0 y1 y2 y3 y4
      go_wp2_with fail
      go_ret
      exact ⟨rfl, B4.out⟩
  · rw [decide_eq_false hm] at HR
    clear hm
    go_enter Tryz.func7, Tryz.ntmps7
    go_wp2_with fail
    rw [Hw1.out]
    refine HA.out.mono ?_
    rintro e w2 ⟨rfl, hb2⟩
    have M2 := Lib.hid (HM0.out.below hb2 HM0.out.lt)
    have Y2 := Lib.hid (HY0.out.below hb2 HY0.out.lt)
    have B2 := Lib.hid (Hb0.out.trans (hb2.mono Hb0.out.size))
    have G2 := Lib.hid (HG.out.below hb2)
    clear hb2 HA HM0 HY0 HG
    obtain ⟨⟨m0, m1, m2, m3, m4⟩, _⟩ := cells_five M2.out
    go_wp2_with fail
    refine (HR.out _).mono ?_
    rintro e w3 ⟨rfl, hb3⟩
    have M3 := Lib.hid (M2.out.below hb3 M2.out.lt)
    have Y3 := Lib.hid (Y2.out.below hb3 Y2.out.lt)
    have B3 := Lib.hid (B2.out.trans (hb3.mono B2.out.size))
    have G3 := Lib.hid (G2.out.below hb3)
    clear hb3 HR M2 Y2 B2 G2 m0 m1 m2 m3 m4
    go_wp2_with fail
    go_ret
    exact ⟨rfl, B3.out⟩
end Go.Proofs.YtpaikolnampcfaaGreatDoor
