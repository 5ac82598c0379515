/- MarkKept: the law's walk. -/
import Derived.Test.YtpaikolnampcfaaGreatDoorLaw06LostF
import Derived.Test.YtpaikolnampcfaaGreatDoorKitInts
import Derived.Deep.RegionHeld3
namespace Go.Proofs.YtpaikolnampcfaaGreatDoor
open Go.RowKit
set_option maxRecDepth 100000 in
set_option maxHeartbeats 32000000 in
theorem keptF_any (σ : Sen) (τ : SenU) (δ : SenD) (κ : SenK) (w : World) (hG : Gls σ τ δ κ w) (o y x : MarkV) (n : Int) (hn : n ≤ 9223372036854775807) (A : Option Addr) (zs : List Int) (c : Nat) (hz : IntsAt w A zs) :
    Calls Tryz.prog 6 #[o.val, y.val, x.val, .bool false, .int .i64 n, .slice A zs.length c] w fun e w' => e = .returned (.bool true) ∧ Below w.heap.size w w' := by
  have hb1 := below_new w (.cells #[.int .i64 o.ver, .int .i64 o.idx, .int .i64 o.term, .int .i64 o.kind, .int .i64 o.void] 26)
  have hb2 := below_new (w.alloc (.cells #[.int .i64 o.ver, .int .i64 o.idx, .int .i64 o.term, .int .i64 o.kind, .int .i64 o.void] 26)) (.cells #[.int .i64 y.ver, .int .i64 y.idx, .int .i64 y.term, .int .i64 y.kind, .int .i64 y.void] 26)
  have hb3 := below_new ((w.alloc (.cells #[.int .i64 o.ver, .int .i64 o.idx, .int .i64 o.term, .int .i64 o.kind, .int .i64 o.void] 26)).alloc (.cells #[.int .i64 y.ver, .int .i64 y.idx, .int .i64 y.term, .int .i64 y.kind, .int .i64 y.void] 26)) (.cells #[.int .i64 x.ver, .int .i64 x.idx, .int .i64 x.term, .int .i64 x.kind, .int .i64 x.void] 26)
  have hbb := (hb1.trans (hb2.mono hb1.size)).trans (hb3.mono (Nat.le_trans hb1.size hb2.size))
  have HO0 := Lib.hid ((((BlockIs.made w 26 #[.int .i64 o.ver, .int .i64 o.idx, .int .i64 o.term, .int .i64 o.kind, .int .i64 o.void]).below hb2 (BlockIs.made w 26 #[.int .i64 o.ver, .int .i64 o.idx, .int .i64 o.term, .int .i64 o.kind, .int .i64 o.void]).lt)).below hb3 (Nat.lt_of_lt_of_le (BlockIs.made w 26 #[.int .i64 o.ver, .int .i64 o.idx, .int .i64 o.term, .int .i64 o.kind, .int .i64 o.void]).lt hb2.size))
  have hY0 := (BlockIs.made (w.alloc (.cells #[.int .i64 o.ver, .int .i64 o.idx, .int .i64 o.term, .int .i64 o.kind, .int .i64 o.void] 26)) 26 #[.int .i64 y.ver, .int .i64 y.idx, .int .i64 y.term, .int .i64 y.kind, .int .i64 y.void]).below hb3 (BlockIs.made (w.alloc (.cells #[.int .i64 o.ver, .int .i64 o.idx, .int .i64 o.term, .int .i64 o.kind, .int .i64 o.void] 26)) 26 #[.int .i64 y.ver, .int .i64 y.idx, .int .i64 y.term, .int .i64 y.kind, .int .i64 y.void]).lt
  rw [World.size_alloc] at hY0
  have HY0 := Lib.hid hY0
  have hX0 := BlockIs.made ((w.alloc (.cells #[.int .i64 o.ver, .int .i64 o.idx, .int .i64 o.term, .int .i64 o.kind, .int .i64 o.void] 26)).alloc (.cells #[.int .i64 y.ver, .int .i64 y.idx, .int .i64 y.term, .int .i64 y.kind, .int .i64 y.void] 26)) 26 #[.int .i64 x.ver, .int .i64 x.idx, .int .i64 x.term, .int .i64 x.kind, .int .i64 x.void]
  rw [World.size_alloc, World.size_alloc] at hX0
  have HX0 := Lib.hid hX0
  have HA := Lib.hid (awake_any σ τ δ κ _ (hG.below hbb))
  have HG := Lib.hid (hG.below hbb)
  have Hb0 := Lib.hid hbb
  have Hz := Lib.hid hz
  obtain ⟨w1, hw1⟩ : ∃ w1, ((w.alloc (.cells #[.int .i64 o.ver, .int .i64 o.idx, .int .i64 o.term, .int .i64 o.kind, .int .i64 o.void] 26)).alloc (.cells #[.int .i64 y.ver, .int .i64 y.idx, .int .i64 y.term, .int .i64 y.kind, .int .i64 y.void] 26)).alloc (.cells #[.int .i64 x.ver, .int .i64 x.idx, .int .i64 x.term, .int .i64 x.kind, .int .i64 x.void] 26) = w1 := ⟨_, rfl⟩
  rw [hw1] at HO0 HY0 HX0 HA HG Hb0
  have Hw1 := Lib.hid hw1
  have HR := Lib.hid (fun w => kright_any w o)
  have HQ := Lib.hid (fun w => kright_any w y)
  have HS := Lib.hid (fun w => kright_any w x)
  have Hn := Lib.hid hn
  clear hb1 hb2 hb3 hbb hY0 hX0 hG hw1 hz hn
  unfold MarkV.val at *
  by_cases ho : o.right
  · rw [decide_eq_true ho] at HR
    have Ho := Lib.hid ho
    clear ho
    by_cases hy : y.right
    · rw [decide_eq_true hy] at HQ
      have Hy := Lib.hid hy
      clear hy
      by_cases hx : x.right
      · rw [decide_eq_true hx] at HS
        have Hx := Lib.hid hx
        clear hx
        by_cases hlt : o.ver < y.ver
        · have Hlt := Lib.hid hlt
          by_cases hlen : zs.length ≤ 10
          · have hl : (zs.length : Int) ≤ 10 := by omega
            have Hlen := Lib.hid hlen
            clear hlen
            go_enter Tryz.func6, Tryz.ntmps6
            go_wp2_with fail
            rw [Hw1.out]
            refine HA.out.mono ?_
            rintro e w2 ⟨rfl, hb2⟩
            have O2 := Lib.hid (HO0.out.below hb2 HO0.out.lt)
            have Y2 := Lib.hid (HY0.out.below hb2 HY0.out.lt)
            have X2 := Lib.hid (HX0.out.below hb2 HX0.out.lt)
            have B2 := Lib.hid (Hb0.out.trans (hb2.mono Hb0.out.size))
            have G2 := Lib.hid (HG.out.below hb2)
            clear hb2 HA HO0 HY0 HX0 HG
            obtain ⟨⟨a0, a1, a2, a3, a4⟩, _⟩ := cells_five O2.out
            go_wp2_with fail
            refine (HR.out _).mono ?_
            rintro e w3 ⟨rfl, hb3⟩
            have O3 := Lib.hid (O2.out.below hb3 O2.out.lt)
            have Y3 := Lib.hid (Y2.out.below hb3 Y2.out.lt)
            have X3 := Lib.hid (X2.out.below hb3 X2.out.lt)
            have B3 := Lib.hid (B2.out.trans (hb3.mono B2.out.size))
            have G3 := Lib.hid (G2.out.below hb3)
            clear hb3 HR O2 Y2 X2 B2 G2 a0 a1 a2 a3 a4
            obtain ⟨⟨a0, a1, a2, a3, a4⟩, _⟩ := cells_five Y3.out
            go_wp2_with fail
            refine (HQ.out _).mono ?_
            rintro e w4 ⟨rfl, hb4⟩
            have O4 := Lib.hid (O3.out.below hb4 O3.out.lt)
            have Y4 := Lib.hid (Y3.out.below hb4 Y3.out.lt)
            have X4 := Lib.hid (X3.out.below hb4 X3.out.lt)
            have B4 := Lib.hid (B3.out.trans (hb4.mono B3.out.size))
            have G4 := Lib.hid (G3.out.below hb4)
            clear hb4 HQ O3 Y3 X3 B3 G3 a0 a1 a2 a3 a4
            obtain ⟨⟨a0, a1, a2, a3, a4⟩, _⟩ := cells_five X4.out
            go_wp2_with fail
            refine (HS.out _).mono ?_
            rintro e w5 ⟨rfl, hb5⟩
            have O5 := Lib.hid (O4.out.below hb5 O4.out.lt)
            have Y5 := Lib.hid (Y4.out.below hb5 Y4.out.lt)
            have X5 := Lib.hid (X4.out.below hb5 X4.out.lt)
            have B5 := Lib.hid (B4.out.trans (hb5.mono B4.out.size))
            have G5 := Lib.hid (G4.out.below hb5)
            clear hb5 HS O4 Y4 X4 B4 G4 a0 a1 a2 a3 a4
            obtain ⟨⟨a0, a1, a2, a3, a4⟩, _⟩ := cells_five O5.out
            obtain ⟨⟨b0, b1, b2, b3, b4⟩, _⟩ := cells_five Y5.out
            obtain ⟨f1, f2, f3, f4, f5⟩ := mark_format
            obtain ⟨p1, p2, p3, p4, _, _⟩ := mark_over (m := o) (.inl ⟨rfl, rfl⟩ : Two2 2 3) f2 f3 f4 noMark_right Ho.out
            obtain ⟨t1, t2, t3, t4, _, _⟩ := mark_over (m := x) (.inr ⟨rfl, rfl⟩ : Two2 3 2) p2 p4 p3 noMark_right Hx.out
            have hmp := mark_put (.inl ⟨rfl, rfl⟩ : Two2 2 3) Ho.out Hy.out Hlt.out t2 t4 t3 n n (n.tmod 3) n
            obtain ⟨mm, m1, m2, m3, m4, m5, m6⟩ := hmp
            have F1 := Lib.hid f5
            have F2 := Lib.hid (few_putK f5 2 o)
            have F3 := Lib.hid (few_putK F2.out 3 x)
            have HM1 := Lib.hid (And.intro f1 (And.intro p1 t1))
            have HM2 := Lib.hid (And.intro m1 (And.intro m2 m3))
            have HM3 := Lib.hid (And.intro m4 (And.intro m5 m6))
            clear f1 f2 f3 f4 f5 p1 p2 p3 p4 t1 t2 t3 t4 m1 m2 m3 m4 m5 m6
            have HN := Lib.hid (OwnT.new (Below.refl w5.heap.size w5) 6 (by decide) (by decide))
            go_wp2_with fail
            clear a0 a1 a2 a3 a4 b0 b1 b2 b3 b4
            refine (sortF_any _).mono ?_
            rintro e w' ⟨rfl, rfl⟩
            go_wp2_with fail
            refine HN.out.mono ?_
            rintro e w6 ⟨h, rfl, k6, hb6⟩
            have O6 := Lib.hid (show Box w6 (fun k => w5.heap.size ≤ k ∧ k < w6.heap.size) w.heap.size _ _ from ⟨O5.out.below hb6 O5.out.lt, fun ht => by have h1 : w5.heap.size ≤ w.heap.size := ht.1; have := O5.out.lt; omega⟩)
            have Y6 := Lib.hid (show Box w6 (fun k => w5.heap.size ≤ k ∧ k < w6.heap.size) (w.heap.size + 1) _ _ from ⟨Y5.out.below hb6 Y5.out.lt, fun ht => by have h1 : w5.heap.size ≤ w.heap.size + 1 := ht.1; have := Y5.out.lt; omega⟩)
            have X6 := Lib.hid (show Box w6 (fun k => w5.heap.size ≤ k ∧ k < w6.heap.size) (w.heap.size + 1 + 1) _ _ from ⟨X5.out.below hb6 X5.out.lt, fun ht => by have h1 : w5.heap.size ≤ w.heap.size + 1 + 1 := ht.1; have := X5.out.lt; omega⟩)
            have HF := kformat_any κ G5.out.d G5.out.k k6 (Few.new (B := 6)) (by decide)
            rw [HM1.out.1] at HF
            have HFm := Lib.hid HF
            clear HF k6 hb6 HN O5 Y5 X5
            go_wp2_with fail
            refine HFm.out.mono ?_
            rintro e w7 ⟨rfl, hS⟩
            have O7 := Lib.hid (O6.out.step hS)
            have Y7 := Lib.hid (Y6.out.step hS)
            have X7 := Lib.hid (X6.out.step hS)
            have HP := kput_any κ G5.out.d G5.out.k hS.own F1.out (by decide) 2 wf2 o
            rw [HM1.out.2.1] at HP
            have HPm := Lib.hid HP
            unfold MarkV.val at HPm
            clear hS HP HFm O6 Y6 X6
            obtain ⟨⟨a0, a1, a2, a3, a4⟩, _⟩ := cells_five O7.out.blk
            go_wp2_with fail
            refine HPm.out.mono ?_
            rintro e w8 ⟨rfl, hS⟩
            have O8 := Lib.hid (O7.out.step hS)
            have Y8 := Lib.hid (Y7.out.step hS)
            have X8 := Lib.hid (X7.out.step hS)
            have HP := kput_any κ G5.out.d G5.out.k hS.own F2.out (by decide) 3 wf3 x
            rw [HM1.out.2.2] at HP
            have HPm := Lib.hid HP
            unfold MarkV.val at HPm
            clear hS HP O7 Y7 X7 a0 a1 a2 a3 a4
            obtain ⟨⟨a0, a1, a2, a3, a4⟩, _⟩ := cells_five X8.out.blk
            go_wp2_with fail
            refine HPm.out.mono ?_
            rintro e w9 ⟨rfl, hS⟩
            have O9 := Lib.hid (O8.out.step hS)
            have Y9 := Lib.hid (Y8.out.step hS)
            have X9 := Lib.hid (X8.out.step hS)
            have HAr := Lib.hid (arm_stp G5.out.d hS.own n Hn.out)
            clear hS HPm O8 Y8 X8 a0 a1 a2 a3 a4
            go_wp2_with fail
            refine HAr.out.mono ?_
            rintro e w10 ⟨rfl, hS⟩
            have O10 := Lib.hid (O9.out.step hS)
            have Y10 := Lib.hid (Y9.out.step hS)
            have X10 := Lib.hid (X9.out.step hS)
            have F4 := Lib.hid (few_arm F3.out n)
            have HP := kput_any κ G5.out.d G5.out.k hS.own F4.out (by decide) 2 wf2 y
            have F5 := Lib.hid (few_putK F4.out 2 y)
            obtain ⟨r, hr⟩ : ∃ r, putK ((putK (putK (formatK (DM.new 6)).2 2 o).2 3 x).2.arm n) 2 y = r := ⟨_, rfl⟩
            rw [hr] at HP F5
            have hm2 := HM2.out
            have hm3 := HM3.out
            rw [hr] at hm2 hm3
            obtain ⟨ep, Dp⟩ := r
            simp only at HP F5 hm2 hm3
            clear HM2 HM3
            have HM2 := Lib.hid hm2
            have HM3 := Lib.hid hm3
            have hcs : (ep = 0 ∧ mm = y) ∨ (ep ≠ 0 ∧ mm = o) ∨ (ep ≠ 0 ∧ mm = y) := by
              by_cases hep : ep = 0
              · exact .inl ⟨hep, HM2.out.2.1 hep⟩
              · rcases HM2.out.1 with h1 | h1
                · exact .inr (.inl ⟨hep, h1⟩)
                · exact .inr (.inr ⟨hep, h1⟩)
            rcases hcs with ⟨hep, hme⟩ | ⟨hep, hme⟩ | ⟨hep, hme⟩
            · subst hep
              subst mm
              have HPm := Lib.hid HP
              unfold MarkV.val at HPm
              clear hS HP HAr O9 Y9 X9 hr hm2 hm3
              obtain ⟨⟨a0, a1, a2, a3, a4⟩, _⟩ := cells_five Y10.out.blk
              go_wp2_with fail
              refine HPm.out.mono ?_
              rintro e w11 ⟨rfl, hS⟩
              have O11 := Lib.hid (O10.out.step hS)
              have Y11 := Lib.hid (Y10.out.step hS)
              have X11 := Lib.hid (X10.out.step hS)
              have HCr := Lib.hid (crash_stp G5.out.d hS.own F5.out (by decide))
              clear hS HPm O10 Y10 X10 a0 a1 a2 a3 a4
              go_wp2_with fail
              refine HCr.out.mono ?_
              rintro e w12 ⟨rfl, hS⟩
              have O12 := Lib.hid (O11.out.step hS)
              have Y12 := Lib.hid (Y11.out.step hS)
              have X12 := Lib.hid (X11.out.step hS)
              have F6 := Lib.hid (few_crash F5.out)
              have HWk := Lib.hid (wake_stp hS.own F6.out (by decide) n (n.tmod 3) n)
              clear hS HCr O11 Y11 X11
              go_wp2_with fail
              refine HWk.out.mono ?_
              rintro e w13 ⟨rfl, hS⟩
              have O13 := Lib.hid (O12.out.step hS)
              have Y13 := Lib.hid (Y12.out.step hS)
              have X13 := Lib.hid (X12.out.step hS)
              have F7 := Lib.hid (One.few_wake F6.out n (n.tmod 3) n)
              have HO := kOpen_any σ τ κ G5.out.c G5.out.u G5.out.d G5.out.k hS.own F7.out (by decide) 2 wf2
              have F8 := Lib.hid (few_openK F7.out 2)
              have hm3 := HM3.out
              obtain ⟨r, hr⟩ : ∃ r, openK (Dp.crash.2.wake n (n.tmod 3) n).2 2 = r := ⟨_, rfl⟩
              rw [hr] at HO F8 hm3
              have hmo := HM2.out.2.2
              rw [hr] at hmo
              obtain ⟨rm, Dx⟩ := r
              simp only at hmo HO F8 hm3
              subst hmo
              simp only at HO
              have HM4 := Lib.hid hm3
              have HOm := Lib.hid HO
              unfold MarkV.val at HOm
              clear hS HO HWk O12 Y12 X12 hr HM3 hm3
              go_wp2_with fail
              refine HOm.out.mono ?_
              rintro e w14 ⟨rfl, hS⟩
              have hbn := below_new w14 (.cells #[.int .i64 y.ver, .int .i64 y.idx, .int .i64 y.term, .int .i64 y.kind, .int .i64 y.void] 26)
              have K15 := Lib.hid (hS.own.on hbn)
              have O15 := Lib.hid ((O13.out.step hS).on hbn)
              have Y15 := Lib.hid ((Y13.out.step hS).on hbn)
              have X15 := Lib.hid ((X13.out.step hS).on hbn)
              have P15 := Lib.hid (Box.made hS.own 26 #[.int .i64 y.ver, .int .i64 y.idx, .int .i64 y.term, .int .i64 y.kind, .int .i64 y.void])
              clear hS hbn HOm O13 Y13 X13
              obtain ⟨⟨a0, a1, a2, a3, a4⟩, _⟩ := cells_five O15.out.blk
              obtain ⟨⟨b0, b1, b2, b3, b4⟩, _⟩ := cells_five Y15.out.blk
              obtain ⟨⟨d0, d1, d2, d3, d4⟩, _⟩ := cells_five P15.out.blk
              go_wp2_with fail
              clear a0 a1 a2 a3 a4 b0 b1 b2 b3 b4 d0 d1 d2 d3 d4
              generalize (w14.alloc (.cells #[.int .i64 y.ver, .int .i64 y.idx, .int .i64 y.term, .int .i64 y.kind, .int .i64 y.void] 26)) = w15 at *
              generalize w14.heap.size = gf at *
              have K0 : Hid (∃ T D, OwnT w5 w15 T h D ∧ Still 6 D ∧ Both D 2 y ∧ Both D 3 x ∧ D.Few (40 + 20 * 0) ∧ Box w15 T (w.heap.size + 1 + 1) 26 #[.int .i64 x.ver, .int .i64 x.idx, .int .i64 x.term, .int .i64 x.kind, .int .i64 x.void] ∧ Box w15 T gf 26 #[.int .i64 y.ver, .int .i64 y.idx, .int .i64 y.term, .int .i64 y.kind, .int .i64 y.void]) := Lib.hid ⟨_, _, K15.out, HM4.out.1, HM4.out.2.1, HM4.out.2.2, fewUp F8.out (by decide), X15.out, P15.out⟩
              clear K15 O15 Y15 X15 P15 HM4
              go_loopg [20] zs.length (fun gk i wx => ∃ j : Nat, gk = zs.length - j ∧ j ≤ zs.length ∧ i = .int .i64 (j : Int) ∧ Hid (∃ T D, OwnT w5 wx T h D ∧ Still 6 D ∧ Both D 2 y ∧ Both D 3 x ∧ D.Few (40 + 20 * j) ∧ Box wx T (w.heap.size + 1 + 1) 26 #[.int .i64 x.ver, .int .i64 x.idx, .int .i64 x.term, .int .i64 x.kind, .int .i64 x.void] ∧ Box wx T gf 26 #[.int .i64 y.ver, .int .i64 y.idx, .int .i64 y.term, .int .i64 y.kind, .int .i64 y.void]))
              case atStart => exact ⟨0, rfl, Nat.zero_le _, rfl, K0⟩
              case round =>
                obtain ⟨j, hgk, hj, rfl, hT⟩ := hrel
                have Hgk := Lib.hid hgk
                clear hgk K0
                obtain ⟨T, D, hK⟩ := hT.out
                have K := Lib.hid hK
                clear hT hK
                by_cases hlt : (j : Int) < (zs.length : Int)
                · have hltN : j < zs.length := by omega
                  obtain ⟨bb, off, rfl, hc⟩ := Hz.out.2 (by rintro rfl; exact absurd hltN (Nat.not_lt_zero _))
                  have hbd := Hz.out.1 _ (List.getElem_mem hltN)
                  have hcj := hc j hltN
                  rw [List.getD_eq_getElem?_getD, List.getElem?_eq_getElem hltN, Option.getD_some] at hcj
                  have Bw := Lib.hid (B5.out.trans (K.out.1.below.mono B5.out.size))
                  have Hcj := Lib.hid hcj
                  obtain ⟨zj, hzj⟩ : ∃ z, zs[j] = z := ⟨_, rfl⟩
                  rw [hzj] at hbd Hcj
                  clear hc hcj hzj
                  have c0 := cell_below Hcj.out Bw.out
                  have e1 := and_one zj
                  obtain ⟨r, hr⟩ : ∃ r, zj % 2 = r := ⟨_, rfl⟩
                  rw [hr] at e1
                  have hr0 : 0 ≤ r := by omega
                  have hr1 : r ≤ 1 := by omega
                  have hj0 : (0 : Int) ≤ (j : Int) := by omega
                  have hj1 : (j : Int) ≤ 10 := by have := Hlen.out; omega
                  have Hbd := Lib.hid hbd
                  have HwN : Hid (∃ wn : Nat, (2 + r + 2 * ((j : Int) % 2)) = (wn : Int) ∧ 2 ≤ wn ∧ wn ≤ 5) := Lib.hid ⟨(2 + r + 2 * ((j : Int) % 2)).toNat, by omega, by omega, by omega⟩
                  have HW := Lib.hid (wipe_stp G5.out.d G5.out.s K.out.1 (2 + r + 2 * ((j : Int) % 2)))
                  clear hr hbd
                  go_wp2_with fail
                  refine HW.out.mono ?_
                  rintro e w20 ⟨rfl, hS⟩
                  obtain ⟨wn, hwn, hw2, hw5⟩ := HwN.out
                  rw [hwn] at hS
                  have X20 := Lib.hid (K.out.2.2.2.2.2.1.step hS)
                  have P20 := Lib.hid (K.out.2.2.2.2.2.2.step hS)
                  obtain ⟨D', hD', r1, r2, r3, r4, r5, r6, r7⟩ := mark_round (.inl ⟨rfl, rfl⟩ : Two2 2 3) Hy.out Hx.out K.out.2.1 K.out.2.2.1 K.out.2.2.2.1 wn ⟨hw2, hw5⟩ zj zj (j : Int) zj
                  have FW := Lib.hid (few_wipe K.out.2.2.2.2.1 (wn : Int))
                  have HR1 := Lib.hid (And.intro hD' (And.intro r1 (And.intro r2 r3)))
                  have HR2 := Lib.hid (And.intro r4 (And.intro r5 (And.intro r6 r7)))
                  have hja : j ≤ 10 := by omega
                  have Hja := Lib.hid hja
                  have Bw1 := Lib.hid (B5.out.trans (hS.own.below.mono B5.out.size))
                  have HAr := Lib.hid (arm_stp G5.out.d hS.own zj Hbd.out.2)
                  clear hS HW HwN hwn hw2 hw5 hD' r1 r2 r3 r4 r5 r6 r7 c0 e1 hr0 hr1 hja
                  have c1 := cell_below Hcj.out Bw1.out
                  go_wp2_with fail
                  refine HAr.out.mono ?_
                  rintro e w21 ⟨rfl, hS⟩
                  have X21 := Lib.hid (X20.out.step hS)
                  have P21 := Lib.hid (P20.out.step hS)
                  have FA := Lib.hid (few_arm FW.out zj)
                  have HO1 := kOpen_any σ τ κ G5.out.c G5.out.u G5.out.d G5.out.k hS.own FA.out (by have := Hja.out; omega) 2 wf2
                  have FO := Lib.hid (few_openK FA.out 2)
                  obtain ⟨ro, hro⟩ : ∃ r, openK ((D.wipe (wn : Int)).2.arm zj) 2 = r := ⟨_, rfl⟩
                  rw [hro] at HO1 FO
                  have hr1 := HR1.out
                  rw [hro] at hr1
                  obtain ⟨⟨om, oe⟩, D1⟩ := ro
                  simp only at HO1 FO hr1
                  clear HR1
                  have HR1 := Lib.hid hr1
                  have HO := Lib.hid HO1
                  unfold MarkV.val at HO
                  clear hS HAr HO1 X20 P20 hro hr1 c1 FA
                  go_wp2_with fail
                  refine HO.out.mono ?_
                  rintro e w22 ⟨rfl, hS⟩
                  have X22 := Lib.hid (X21.out.step hS)
                  have P22 := Lib.hid (P21.out.step hS)
                  have HCr := Lib.hid (crash_stp G5.out.d hS.own FO.out (by have := Hja.out; omega))
                  clear hS HO X21 P21
                  go_wp2_with fail
                  refine HCr.out.mono ?_
                  rintro e w23 ⟨rfl, hS⟩
                  have X23 := Lib.hid (X22.out.step hS)
                  have P23 := Lib.hid (P22.out.step hS)
                  have FC := Lib.hid (few_crash FO.out)
                  have Bw3 := Lib.hid (B5.out.trans (hS.own.below.mono B5.out.size))
                  have HWk := Lib.hid (wake_stp hS.own FC.out (by have := Hja.out; omega) zj (j : Int) zj)
                  have HWd := Lib.hid (wake_stp (hS.on (Below.refl _ _).drew).own FC.out (by have := Hja.out; omega) zj (j : Int) zj)
                  have HS23 := Lib.hid hS
                  clear hS HCr X22 P22
                  have c3 := cell_below Hcj.out Bw3.out
                  go_wp2_with fail
                  go_region_held3 (fun w' => w'.cell? ⟨bb, off + j, none⟩ = some (.int .i64 zj)) (first | exact c3 | exact c4) (first
                    | (go_at_call 36; (first | (with_reducible refine HWk.out.mono ?_) | (with_reducible refine HWd.out.mono ?_)); rintro e w24 ⟨rfl, hS⟩; have hS1 : Stp w5 w23 _ h _ w24 := (show Stp w5 w23 (grow _ w22 w23) h _ w24 from ⟨hS.own, ⟨hS.fr.os, hS.fr.tape, hS.fr.output, hS.fr.size, hS.fr.block⟩⟩); have S24 := Lib.hid hS1; have c4 := cell_below Hcj.out (B5.out.trans (hS1.own.below.mono B5.out.size)); clear hS hS1)
                    | fail)
                  all_goals
                    have X24 := Lib.hid (X23.out.step S24.out)
                    have P24 := Lib.hid (P23.out.step S24.out)
                    have hk := S24.out.own
                    have hf := One.few_wake FC.out zj (j : Int) zj
                    rw [← HR1.out.1] at hk hf
                    have hR := HR1.out.2
                    have hR2 := HR2.out
                    have HO1 := kOpen_any σ τ κ G5.out.c G5.out.u G5.out.d G5.out.k hk hf (by have := Hja.out; omega) 2 wf2
                    have FO2 := few_openK hf 2
                    obtain ⟨ro, hro⟩ : ∃ r, openK D' 2 = r := ⟨_, rfl⟩
                    rw [hro] at HO1 FO2 hR hR2
                    obtain ⟨rm, D2⟩ := ro
                    simp only at HO1 FO2 hR hR2
                    obtain ⟨hs1, hrm, hrx⟩ := hR
                    subst hrm
                    simp only at HO1
                    have FD := Lib.hid FO2
                    have HRx := Lib.hid hrx
                    have HR3 := Lib.hid hR2
                    have HOm := Lib.hid HO1
                    unfold MarkV.val at HOm
                    clear hk hf hR2 HO1 FO2 hro hs1 hrx HR1 HR2 c3 c4 HWk HWd HS23
                    go_wp2_with fail
                    refine HOm.out.mono ?_
                    rintro e w25 ⟨rfl, hS⟩
                    have hbn := below_new w25 (.cells #[.int .i64 y.ver, .int .i64 y.idx, .int .i64 y.term, .int .i64 y.kind, .int .i64 y.void] 26)
                    have K26 := Lib.hid (hS.own.on hbn)
                    have X26 := Lib.hid ((X24.out.step hS).on hbn)
                    have P26 := Lib.hid ((P24.out.step hS).on hbn)
                    have Q26 := Lib.hid (Box.made hS.own 26 #[.int .i64 y.ver, .int .i64 y.idx, .int .i64 y.term, .int .i64 y.kind, .int .i64 y.void])
                    have HO1 := kOpen_any σ τ κ G5.out.c G5.out.u G5.out.d G5.out.k K26.out FD.out (by have := Hja.out; omega) 3 wf3
                    have FO2 := few_openK FD.out 3
                    have hrx := HRx.out
                    have hR3 := HR3.out
                    obtain ⟨ro, hro⟩ : ∃ r, openK D2 3 = r := ⟨_, rfl⟩
                    rw [hro] at HO1 FO2 hrx hR3
                    obtain ⟨rm, D3⟩ := ro
                    simp only at HO1 FO2 hrx hR3
                    subst hrx
                    simp only at HO1
                    have FE := Lib.hid FO2
                    have HR4 := Lib.hid hR3
                    obtain ⟨w26, hw26⟩ : ∃ w26, w25.alloc (.cells #[.int .i64 y.ver, .int .i64 y.idx, .int .i64 y.term, .int .i64 y.kind, .int .i64 y.void] 26) = w26 := ⟨_, rfl⟩
                    rw [hw26] at K26 X26 P26 Q26 HO1
                    have Hw26 := Lib.hid hw26
                    have HOm2 := Lib.hid HO1
                    unfold MarkV.val at HOm2
                    clear hS hbn HO1 FO2 hR3 hro hw26 HOm HRx HR3 X24 P24
                    go_wp2_with fail
                    rw [Hw26.out]
                    refine HOm2.out.mono ?_
                    rintro e w27 ⟨rfl, hS⟩
                    have hbn := below_new w27 (.cells #[.int .i64 x.ver, .int .i64 x.idx, .int .i64 x.term, .int .i64 x.kind, .int .i64 x.void] 26)
                    have K28 := Lib.hid (hS.own.on hbn)
                    have X28 := Lib.hid ((X26.out.step hS).on hbn)
                    have P28 := Lib.hid ((P26.out.step hS).on hbn)
                    have Q28 := Lib.hid ((Q26.out.step hS).on hbn)
                    have R28 := Lib.hid (Box.made hS.own 26 #[.int .i64 x.ver, .int .i64 x.idx, .int .i64 x.term, .int .i64 x.kind, .int .i64 x.void])
                    have HD1 := kDamaged_any σ τ κ G5.out.c G5.out.u G5.out.d G5.out.k K28.out
                    rw [HR4.out.2.2.2] at HD1
                    have HDm := Lib.hid HD1
                    obtain ⟨⟨a0, a1, a2, a3, a4⟩, _⟩ := cells_five X28.out.blk
                    obtain ⟨⟨b0, b1, b2, b3, b4⟩, _⟩ := cells_five P28.out.blk
                    obtain ⟨⟨d0, d1, d2, d3, d4⟩, _⟩ := cells_five Q28.out.blk
                    obtain ⟨⟨e0, e1, e2, e3, e4⟩, _⟩ := cells_five R28.out.blk
                    obtain ⟨w28, hw28⟩ : ∃ w28, w27.alloc (.cells #[.int .i64 x.ver, .int .i64 x.idx, .int .i64 x.term, .int .i64 x.kind, .int .i64 x.void] 26) = w28 := ⟨_, rfl⟩
                    rw [hw28] at K28 X28 P28 Q28 R28 HDm
                    have Hw28 := Lib.hid hw28
                    clear hS hbn HD1 hw28 HOm2 X26 P26 Q26
                    go_wp2_with fail
                    rw [Hw28.out]
                    refine HDm.out.mono ?_
                    rintro e w29 ⟨v, rfl, ho, hb29⟩
                    obtain ⟨Xv, cv, rfl, _, _⟩ := own_slice ho
                    have hjj : j + 1 ≤ zs.length := by omega
                    have KN : Hid (∃ T D, OwnT w5 w29 T h D ∧ Still 6 D ∧ Both D 2 y ∧ Both D 3 x ∧ D.Few (40 + 20 * (j + 1)) ∧ Box w29 T (w.heap.size + 1 + 1) 26 #[.int .i64 x.ver, .int .i64 x.idx, .int .i64 x.term, .int .i64 x.kind, .int .i64 x.void] ∧ Box w29 T gf 26 #[.int .i64 y.ver, .int .i64 y.idx, .int .i64 y.term, .int .i64 y.kind, .int .i64 y.void]) := Lib.hid ⟨_, _, K28.out.on hb29, HR4.out.1, HR4.out.2.1, HR4.out.2.2.1, fewUp FE.out (by omega), X28.out.on hb29, P28.out.on hb29⟩
                    clear a0 a1 a2 a3 a4 b0 b1 b2 b3 b4 d0 d1 d2 d3 d4 e0 e1 e2 e3 e4 ho hb29 HDm K28 X28 P28 Q28 R28
                    rw [show ([] : List Int).length = 0 from rfl]
                    go_wp2_with fail
                    go_roundg (zs.length - (j + 1))
                    case measure => rw [Hgk.out]; omega
                    case rel => exact ⟨j + 1, rfl, hjj, by go_num, KN⟩
                · obtain rfl : j = zs.length := by omega
                  have B16 := Lib.hid (B5.out.trans (K.out.1.below.mono B5.out.size))
                  go_wp2_with fail
                  go_ret
                  exact ⟨rfl, B16.out⟩
            · have hne : (ep == 0) = false := beq_eq_false_iff_ne.2 hep
              clear hep
              subst mm
              have HPm := Lib.hid HP
              unfold MarkV.val at HPm
              clear hS HP HAr O9 Y9 X9 hr hm2 hm3
              obtain ⟨⟨a0, a1, a2, a3, a4⟩, _⟩ := cells_five Y10.out.blk
              go_wp2_with fail
              refine HPm.out.mono ?_
              rintro e w11 ⟨rfl, hS⟩
              have O11 := Lib.hid (O10.out.step hS)
              have Y11 := Lib.hid (Y10.out.step hS)
              have X11 := Lib.hid (X10.out.step hS)
              have HCr := Lib.hid (crash_stp G5.out.d hS.own F5.out (by decide))
              clear hS HPm O10 Y10 X10 a0 a1 a2 a3 a4
              go_wp2_with fail
              refine HCr.out.mono ?_
              rintro e w12 ⟨rfl, hS⟩
              have O12 := Lib.hid (O11.out.step hS)
              have Y12 := Lib.hid (Y11.out.step hS)
              have X12 := Lib.hid (X11.out.step hS)
              have F6 := Lib.hid (few_crash F5.out)
              have HWk := Lib.hid (wake_stp hS.own F6.out (by decide) n (n.tmod 3) n)
              clear hS HCr O11 Y11 X11
              go_wp2_with fail
              refine HWk.out.mono ?_
              rintro e w13 ⟨rfl, hS⟩
              have O13 := Lib.hid (O12.out.step hS)
              have Y13 := Lib.hid (Y12.out.step hS)
              have X13 := Lib.hid (X12.out.step hS)
              have F7 := Lib.hid (One.few_wake F6.out n (n.tmod 3) n)
              have HO := kOpen_any σ τ κ G5.out.c G5.out.u G5.out.d G5.out.k hS.own F7.out (by decide) 2 wf2
              have F8 := Lib.hid (few_openK F7.out 2)
              have hm3 := HM3.out
              obtain ⟨r, hr⟩ : ∃ r, openK (Dp.crash.2.wake n (n.tmod 3) n).2 2 = r := ⟨_, rfl⟩
              rw [hr] at HO F8 hm3
              have hmo := HM2.out.2.2
              rw [hr] at hmo
              obtain ⟨rm, Dx⟩ := r
              simp only at hmo HO F8 hm3
              subst hmo
              simp only at HO
              have HM4 := Lib.hid hm3
              have HOm := Lib.hid HO
              unfold MarkV.val at HOm
              clear hS HO HWk O12 Y12 X12 hr HM3 hm3
              go_wp2_with fail
              refine HOm.out.mono ?_
              rintro e w14 ⟨rfl, hS⟩
              have hbn := below_new w14 (.cells #[.int .i64 o.ver, .int .i64 o.idx, .int .i64 o.term, .int .i64 o.kind, .int .i64 o.void] 26)
              have K15 := Lib.hid (hS.own.on hbn)
              have O15 := Lib.hid ((O13.out.step hS).on hbn)
              have Y15 := Lib.hid ((Y13.out.step hS).on hbn)
              have X15 := Lib.hid ((X13.out.step hS).on hbn)
              have P15 := Lib.hid (Box.made hS.own 26 #[.int .i64 o.ver, .int .i64 o.idx, .int .i64 o.term, .int .i64 o.kind, .int .i64 o.void])
              clear hS hbn HOm O13 Y13 X13
              obtain ⟨⟨a0, a1, a2, a3, a4⟩, _⟩ := cells_five O15.out.blk
              obtain ⟨⟨b0, b1, b2, b3, b4⟩, _⟩ := cells_five Y15.out.blk
              obtain ⟨⟨d0, d1, d2, d3, d4⟩, _⟩ := cells_five P15.out.blk
              go_wp2_with fail
              clear a0 a1 a2 a3 a4 b0 b1 b2 b3 b4 d0 d1 d2 d3 d4
              generalize (w14.alloc (.cells #[.int .i64 o.ver, .int .i64 o.idx, .int .i64 o.term, .int .i64 o.kind, .int .i64 o.void] 26)) = w15 at *
              generalize w14.heap.size = gf at *
              have K0 : Hid (∃ T D, OwnT w5 w15 T h D ∧ Still 6 D ∧ Both D 2 o ∧ Both D 3 x ∧ D.Few (40 + 20 * 0) ∧ Box w15 T (w.heap.size + 1 + 1) 26 #[.int .i64 x.ver, .int .i64 x.idx, .int .i64 x.term, .int .i64 x.kind, .int .i64 x.void] ∧ Box w15 T gf 26 #[.int .i64 o.ver, .int .i64 o.idx, .int .i64 o.term, .int .i64 o.kind, .int .i64 o.void]) := Lib.hid ⟨_, _, K15.out, HM4.out.1, HM4.out.2.1, HM4.out.2.2, fewUp F8.out (by decide), X15.out, P15.out⟩
              clear K15 O15 Y15 X15 P15 HM4
              go_loopg [20] zs.length (fun gk i wx => ∃ j : Nat, gk = zs.length - j ∧ j ≤ zs.length ∧ i = .int .i64 (j : Int) ∧ Hid (∃ T D, OwnT w5 wx T h D ∧ Still 6 D ∧ Both D 2 o ∧ Both D 3 x ∧ D.Few (40 + 20 * j) ∧ Box wx T (w.heap.size + 1 + 1) 26 #[.int .i64 x.ver, .int .i64 x.idx, .int .i64 x.term, .int .i64 x.kind, .int .i64 x.void] ∧ Box wx T gf 26 #[.int .i64 o.ver, .int .i64 o.idx, .int .i64 o.term, .int .i64 o.kind, .int .i64 o.void]))
              case atStart => exact ⟨0, rfl, Nat.zero_le _, rfl, K0⟩
              case round =>
                obtain ⟨j, hgk, hj, rfl, hT⟩ := hrel
                have Hgk := Lib.hid hgk
                clear hgk K0
                obtain ⟨T, D, hK⟩ := hT.out
                have K := Lib.hid hK
                clear hT hK
                by_cases hlt : (j : Int) < (zs.length : Int)
                · have hltN : j < zs.length := by omega
                  obtain ⟨bb, off, rfl, hc⟩ := Hz.out.2 (by rintro rfl; exact absurd hltN (Nat.not_lt_zero _))
                  have hbd := Hz.out.1 _ (List.getElem_mem hltN)
                  have hcj := hc j hltN
                  rw [List.getD_eq_getElem?_getD, List.getElem?_eq_getElem hltN, Option.getD_some] at hcj
                  have Bw := Lib.hid (B5.out.trans (K.out.1.below.mono B5.out.size))
                  have Hcj := Lib.hid hcj
                  obtain ⟨zj, hzj⟩ : ∃ z, zs[j] = z := ⟨_, rfl⟩
                  rw [hzj] at hbd Hcj
                  clear hc hcj hzj
                  have c0 := cell_below Hcj.out Bw.out
                  have e1 := and_one zj
                  obtain ⟨r, hr⟩ : ∃ r, zj % 2 = r := ⟨_, rfl⟩
                  rw [hr] at e1
                  have hr0 : 0 ≤ r := by omega
                  have hr1 : r ≤ 1 := by omega
                  have hj0 : (0 : Int) ≤ (j : Int) := by omega
                  have hj1 : (j : Int) ≤ 10 := by have := Hlen.out; omega
                  have Hbd := Lib.hid hbd
                  have HwN : Hid (∃ wn : Nat, (2 + r + 2 * ((j : Int) % 2)) = (wn : Int) ∧ 2 ≤ wn ∧ wn ≤ 5) := Lib.hid ⟨(2 + r + 2 * ((j : Int) % 2)).toNat, by omega, by omega, by omega⟩
                  have HW := Lib.hid (wipe_stp G5.out.d G5.out.s K.out.1 (2 + r + 2 * ((j : Int) % 2)))
                  clear hr hbd
                  go_wp2_with fail
                  refine HW.out.mono ?_
                  rintro e w20 ⟨rfl, hS⟩
                  obtain ⟨wn, hwn, hw2, hw5⟩ := HwN.out
                  rw [hwn] at hS
                  have X20 := Lib.hid (K.out.2.2.2.2.2.1.step hS)
                  have P20 := Lib.hid (K.out.2.2.2.2.2.2.step hS)
                  obtain ⟨D', hD', r1, r2, r3, r4, r5, r6, r7⟩ := mark_round (.inl ⟨rfl, rfl⟩ : Two2 2 3) Ho.out Hx.out K.out.2.1 K.out.2.2.1 K.out.2.2.2.1 wn ⟨hw2, hw5⟩ zj zj (j : Int) zj
                  have FW := Lib.hid (few_wipe K.out.2.2.2.2.1 (wn : Int))
                  have HR1 := Lib.hid (And.intro hD' (And.intro r1 (And.intro r2 r3)))
                  have HR2 := Lib.hid (And.intro r4 (And.intro r5 (And.intro r6 r7)))
                  have hja : j ≤ 10 := by omega
                  have Hja := Lib.hid hja
                  have Bw1 := Lib.hid (B5.out.trans (hS.own.below.mono B5.out.size))
                  have HAr := Lib.hid (arm_stp G5.out.d hS.own zj Hbd.out.2)
                  clear hS HW HwN hwn hw2 hw5 hD' r1 r2 r3 r4 r5 r6 r7 c0 e1 hr0 hr1 hja
                  have c1 := cell_below Hcj.out Bw1.out
                  go_wp2_with fail
                  refine HAr.out.mono ?_
                  rintro e w21 ⟨rfl, hS⟩
                  have X21 := Lib.hid (X20.out.step hS)
                  have P21 := Lib.hid (P20.out.step hS)
                  have FA := Lib.hid (few_arm FW.out zj)
                  have HO1 := kOpen_any σ τ κ G5.out.c G5.out.u G5.out.d G5.out.k hS.own FA.out (by have := Hja.out; omega) 2 wf2
                  have FO := Lib.hid (few_openK FA.out 2)
                  obtain ⟨ro, hro⟩ : ∃ r, openK ((D.wipe (wn : Int)).2.arm zj) 2 = r := ⟨_, rfl⟩
                  rw [hro] at HO1 FO
                  have hr1 := HR1.out
                  rw [hro] at hr1
                  obtain ⟨⟨om, oe⟩, D1⟩ := ro
                  simp only at HO1 FO hr1
                  clear HR1
                  have HR1 := Lib.hid hr1
                  have HO := Lib.hid HO1
                  unfold MarkV.val at HO
                  clear hS HAr HO1 X20 P20 hro hr1 c1 FA
                  go_wp2_with fail
                  refine HO.out.mono ?_
                  rintro e w22 ⟨rfl, hS⟩
                  have X22 := Lib.hid (X21.out.step hS)
                  have P22 := Lib.hid (P21.out.step hS)
                  have HCr := Lib.hid (crash_stp G5.out.d hS.own FO.out (by have := Hja.out; omega))
                  clear hS HO X21 P21
                  go_wp2_with fail
                  refine HCr.out.mono ?_
                  rintro e w23 ⟨rfl, hS⟩
                  have X23 := Lib.hid (X22.out.step hS)
                  have P23 := Lib.hid (P22.out.step hS)
                  have FC := Lib.hid (few_crash FO.out)
                  have Bw3 := Lib.hid (B5.out.trans (hS.own.below.mono B5.out.size))
                  have HWk := Lib.hid (wake_stp hS.own FC.out (by have := Hja.out; omega) zj (j : Int) zj)
                  have HWd := Lib.hid (wake_stp (hS.on (Below.refl _ _).drew).own FC.out (by have := Hja.out; omega) zj (j : Int) zj)
                  have HS23 := Lib.hid hS
                  clear hS HCr X22 P22
                  have c3 := cell_below Hcj.out Bw3.out
                  go_wp2_with fail
                  go_region_held3 (fun w' => w'.cell? ⟨bb, off + j, none⟩ = some (.int .i64 zj)) (first | exact c3 | exact c4) (first
                    | (go_at_call 36; (first | (with_reducible refine HWk.out.mono ?_) | (with_reducible refine HWd.out.mono ?_)); rintro e w24 ⟨rfl, hS⟩; have hS1 : Stp w5 w23 _ h _ w24 := (show Stp w5 w23 (grow _ w22 w23) h _ w24 from ⟨hS.own, ⟨hS.fr.os, hS.fr.tape, hS.fr.output, hS.fr.size, hS.fr.block⟩⟩); have S24 := Lib.hid hS1; have c4 := cell_below Hcj.out (B5.out.trans (hS1.own.below.mono B5.out.size)); clear hS hS1)
                    | fail)
                  all_goals
                    have X24 := Lib.hid (X23.out.step S24.out)
                    have P24 := Lib.hid (P23.out.step S24.out)
                    have hk := S24.out.own
                    have hf := One.few_wake FC.out zj (j : Int) zj
                    rw [← HR1.out.1] at hk hf
                    have hR := HR1.out.2
                    have hR2 := HR2.out
                    have HO1 := kOpen_any σ τ κ G5.out.c G5.out.u G5.out.d G5.out.k hk hf (by have := Hja.out; omega) 2 wf2
                    have FO2 := few_openK hf 2
                    obtain ⟨ro, hro⟩ : ∃ r, openK D' 2 = r := ⟨_, rfl⟩
                    rw [hro] at HO1 FO2 hR hR2
                    obtain ⟨rm, D2⟩ := ro
                    simp only at HO1 FO2 hR hR2
                    obtain ⟨hs1, hrm, hrx⟩ := hR
                    subst hrm
                    simp only at HO1
                    have FD := Lib.hid FO2
                    have HRx := Lib.hid hrx
                    have HR3 := Lib.hid hR2
                    have HOm := Lib.hid HO1
                    unfold MarkV.val at HOm
                    clear hk hf hR2 HO1 FO2 hro hs1 hrx HR1 HR2 c3 c4 HWk HWd HS23
                    go_wp2_with fail
                    refine HOm.out.mono ?_
                    rintro e w25 ⟨rfl, hS⟩
                    have hbn := below_new w25 (.cells #[.int .i64 o.ver, .int .i64 o.idx, .int .i64 o.term, .int .i64 o.kind, .int .i64 o.void] 26)
                    have K26 := Lib.hid (hS.own.on hbn)
                    have X26 := Lib.hid ((X24.out.step hS).on hbn)
                    have P26 := Lib.hid ((P24.out.step hS).on hbn)
                    have Q26 := Lib.hid (Box.made hS.own 26 #[.int .i64 o.ver, .int .i64 o.idx, .int .i64 o.term, .int .i64 o.kind, .int .i64 o.void])
                    have HO1 := kOpen_any σ τ κ G5.out.c G5.out.u G5.out.d G5.out.k K26.out FD.out (by have := Hja.out; omega) 3 wf3
                    have FO2 := few_openK FD.out 3
                    have hrx := HRx.out
                    have hR3 := HR3.out
                    obtain ⟨ro, hro⟩ : ∃ r, openK D2 3 = r := ⟨_, rfl⟩
                    rw [hro] at HO1 FO2 hrx hR3
                    obtain ⟨rm, D3⟩ := ro
                    simp only at HO1 FO2 hrx hR3
                    subst hrx
                    simp only at HO1
                    have FE := Lib.hid FO2
                    have HR4 := Lib.hid hR3
                    obtain ⟨w26, hw26⟩ : ∃ w26, w25.alloc (.cells #[.int .i64 o.ver, .int .i64 o.idx, .int .i64 o.term, .int .i64 o.kind, .int .i64 o.void] 26) = w26 := ⟨_, rfl⟩
                    rw [hw26] at K26 X26 P26 Q26 HO1
                    have Hw26 := Lib.hid hw26
                    have HOm2 := Lib.hid HO1
                    unfold MarkV.val at HOm2
                    clear hS hbn HO1 FO2 hR3 hro hw26 HOm HRx HR3 X24 P24
                    go_wp2_with fail
                    rw [Hw26.out]
                    refine HOm2.out.mono ?_
                    rintro e w27 ⟨rfl, hS⟩
                    have hbn := below_new w27 (.cells #[.int .i64 x.ver, .int .i64 x.idx, .int .i64 x.term, .int .i64 x.kind, .int .i64 x.void] 26)
                    have K28 := Lib.hid (hS.own.on hbn)
                    have X28 := Lib.hid ((X26.out.step hS).on hbn)
                    have P28 := Lib.hid ((P26.out.step hS).on hbn)
                    have Q28 := Lib.hid ((Q26.out.step hS).on hbn)
                    have R28 := Lib.hid (Box.made hS.own 26 #[.int .i64 x.ver, .int .i64 x.idx, .int .i64 x.term, .int .i64 x.kind, .int .i64 x.void])
                    have HD1 := kDamaged_any σ τ κ G5.out.c G5.out.u G5.out.d G5.out.k K28.out
                    rw [HR4.out.2.2.2] at HD1
                    have HDm := Lib.hid HD1
                    obtain ⟨⟨a0, a1, a2, a3, a4⟩, _⟩ := cells_five X28.out.blk
                    obtain ⟨⟨b0, b1, b2, b3, b4⟩, _⟩ := cells_five P28.out.blk
                    obtain ⟨⟨d0, d1, d2, d3, d4⟩, _⟩ := cells_five Q28.out.blk
                    obtain ⟨⟨e0, e1, e2, e3, e4⟩, _⟩ := cells_five R28.out.blk
                    obtain ⟨w28, hw28⟩ : ∃ w28, w27.alloc (.cells #[.int .i64 x.ver, .int .i64 x.idx, .int .i64 x.term, .int .i64 x.kind, .int .i64 x.void] 26) = w28 := ⟨_, rfl⟩
                    rw [hw28] at K28 X28 P28 Q28 R28 HDm
                    have Hw28 := Lib.hid hw28
                    clear hS hbn HD1 hw28 HOm2 X26 P26 Q26
                    go_wp2_with fail
                    rw [Hw28.out]
                    refine HDm.out.mono ?_
                    rintro e w29 ⟨v, rfl, ho, hb29⟩
                    obtain ⟨Xv, cv, rfl, _, _⟩ := own_slice ho
                    have hjj : j + 1 ≤ zs.length := by omega
                    have KN : Hid (∃ T D, OwnT w5 w29 T h D ∧ Still 6 D ∧ Both D 2 o ∧ Both D 3 x ∧ D.Few (40 + 20 * (j + 1)) ∧ Box w29 T (w.heap.size + 1 + 1) 26 #[.int .i64 x.ver, .int .i64 x.idx, .int .i64 x.term, .int .i64 x.kind, .int .i64 x.void] ∧ Box w29 T gf 26 #[.int .i64 o.ver, .int .i64 o.idx, .int .i64 o.term, .int .i64 o.kind, .int .i64 o.void]) := Lib.hid ⟨_, _, K28.out.on hb29, HR4.out.1, HR4.out.2.1, HR4.out.2.2.1, fewUp FE.out (by omega), X28.out.on hb29, P28.out.on hb29⟩
                    clear a0 a1 a2 a3 a4 b0 b1 b2 b3 b4 d0 d1 d2 d3 d4 e0 e1 e2 e3 e4 ho hb29 HDm K28 X28 P28 Q28 R28
                    rw [show ([] : List Int).length = 0 from rfl]
                    go_wp2_with fail
                    go_roundg (zs.length - (j + 1))
                    case measure => rw [Hgk.out]; omega
                    case rel => exact ⟨j + 1, rfl, hjj, by go_num, KN⟩
                · obtain rfl : j = zs.length := by omega
                  have B16 := Lib.hid (B5.out.trans (K.out.1.below.mono B5.out.size))
                  go_wp2_with fail
                  go_ret
                  exact ⟨rfl, B16.out⟩
            · have hne : (ep == 0) = false := beq_eq_false_iff_ne.2 hep
              clear hep
              subst mm
              have HPm := Lib.hid HP
              unfold MarkV.val at HPm
              clear hS HP HAr O9 Y9 X9 hr hm2 hm3
              obtain ⟨⟨a0, a1, a2, a3, a4⟩, _⟩ := cells_five Y10.out.blk
              go_wp2_with fail
              refine HPm.out.mono ?_
              rintro e w11 ⟨rfl, hS⟩
              have O11 := Lib.hid (O10.out.step hS)
              have Y11 := Lib.hid (Y10.out.step hS)
              have X11 := Lib.hid (X10.out.step hS)
              have HCr := Lib.hid (crash_stp G5.out.d hS.own F5.out (by decide))
              clear hS HPm O10 Y10 X10 a0 a1 a2 a3 a4
              go_wp2_with fail
              refine HCr.out.mono ?_
              rintro e w12 ⟨rfl, hS⟩
              have O12 := Lib.hid (O11.out.step hS)
              have Y12 := Lib.hid (Y11.out.step hS)
              have X12 := Lib.hid (X11.out.step hS)
              have F6 := Lib.hid (few_crash F5.out)
              have HWk := Lib.hid (wake_stp hS.own F6.out (by decide) n (n.tmod 3) n)
              clear hS HCr O11 Y11 X11
              go_wp2_with fail
              refine HWk.out.mono ?_
              rintro e w13 ⟨rfl, hS⟩
              have O13 := Lib.hid (O12.out.step hS)
              have Y13 := Lib.hid (Y12.out.step hS)
              have X13 := Lib.hid (X12.out.step hS)
              have F7 := Lib.hid (One.few_wake F6.out n (n.tmod 3) n)
              have HO := kOpen_any σ τ κ G5.out.c G5.out.u G5.out.d G5.out.k hS.own F7.out (by decide) 2 wf2
              have F8 := Lib.hid (few_openK F7.out 2)
              have hm3 := HM3.out
              obtain ⟨r, hr⟩ : ∃ r, openK (Dp.crash.2.wake n (n.tmod 3) n).2 2 = r := ⟨_, rfl⟩
              rw [hr] at HO F8 hm3
              have hmo := HM2.out.2.2
              rw [hr] at hmo
              obtain ⟨rm, Dx⟩ := r
              simp only at hmo HO F8 hm3
              subst hmo
              simp only at HO
              have HM4 := Lib.hid hm3
              have HOm := Lib.hid HO
              unfold MarkV.val at HOm
              clear hS HO HWk O12 Y12 X12 hr HM3 hm3
              go_wp2_with fail
              refine HOm.out.mono ?_
              rintro e w14 ⟨rfl, hS⟩
              have hbn := below_new w14 (.cells #[.int .i64 y.ver, .int .i64 y.idx, .int .i64 y.term, .int .i64 y.kind, .int .i64 y.void] 26)
              have K15 := Lib.hid (hS.own.on hbn)
              have O15 := Lib.hid ((O13.out.step hS).on hbn)
              have Y15 := Lib.hid ((Y13.out.step hS).on hbn)
              have X15 := Lib.hid ((X13.out.step hS).on hbn)
              have P15 := Lib.hid (Box.made hS.own 26 #[.int .i64 y.ver, .int .i64 y.idx, .int .i64 y.term, .int .i64 y.kind, .int .i64 y.void])
              clear hS hbn HOm O13 Y13 X13
              obtain ⟨⟨a0, a1, a2, a3, a4⟩, _⟩ := cells_five O15.out.blk
              obtain ⟨⟨b0, b1, b2, b3, b4⟩, _⟩ := cells_five Y15.out.blk
              obtain ⟨⟨d0, d1, d2, d3, d4⟩, _⟩ := cells_five P15.out.blk
              go_wp2_with fail
              clear a0 a1 a2 a3 a4 b0 b1 b2 b3 b4 d0 d1 d2 d3 d4
              generalize (w14.alloc (.cells #[.int .i64 y.ver, .int .i64 y.idx, .int .i64 y.term, .int .i64 y.kind, .int .i64 y.void] 26)) = w15 at *
              generalize w14.heap.size = gf at *
              have K0 : Hid (∃ T D, OwnT w5 w15 T h D ∧ Still 6 D ∧ Both D 2 y ∧ Both D 3 x ∧ D.Few (40 + 20 * 0) ∧ Box w15 T (w.heap.size + 1 + 1) 26 #[.int .i64 x.ver, .int .i64 x.idx, .int .i64 x.term, .int .i64 x.kind, .int .i64 x.void] ∧ Box w15 T gf 26 #[.int .i64 y.ver, .int .i64 y.idx, .int .i64 y.term, .int .i64 y.kind, .int .i64 y.void]) := Lib.hid ⟨_, _, K15.out, HM4.out.1, HM4.out.2.1, HM4.out.2.2, fewUp F8.out (by decide), X15.out, P15.out⟩
              clear K15 O15 Y15 X15 P15 HM4
              go_loopg [20] zs.length (fun gk i wx => ∃ j : Nat, gk = zs.length - j ∧ j ≤ zs.length ∧ i = .int .i64 (j : Int) ∧ Hid (∃ T D, OwnT w5 wx T h D ∧ Still 6 D ∧ Both D 2 y ∧ Both D 3 x ∧ D.Few (40 + 20 * j) ∧ Box wx T (w.heap.size + 1 + 1) 26 #[.int .i64 x.ver, .int .i64 x.idx, .int .i64 x.term, .int .i64 x.kind, .int .i64 x.void] ∧ Box wx T gf 26 #[.int .i64 y.ver, .int .i64 y.idx, .int .i64 y.term, .int .i64 y.kind, .int .i64 y.void]))
              case atStart => exact ⟨0, rfl, Nat.zero_le _, rfl, K0⟩
              case round =>
                obtain ⟨j, hgk, hj, rfl, hT⟩ := hrel
                have Hgk := Lib.hid hgk
                clear hgk K0
                obtain ⟨T, D, hK⟩ := hT.out
                have K := Lib.hid hK
                clear hT hK
                by_cases hlt : (j : Int) < (zs.length : Int)
                · have hltN : j < zs.length := by omega
                  obtain ⟨bb, off, rfl, hc⟩ := Hz.out.2 (by rintro rfl; exact absurd hltN (Nat.not_lt_zero _))
                  have hbd := Hz.out.1 _ (List.getElem_mem hltN)
                  have hcj := hc j hltN
                  rw [List.getD_eq_getElem?_getD, List.getElem?_eq_getElem hltN, Option.getD_some] at hcj
                  have Bw := Lib.hid (B5.out.trans (K.out.1.below.mono B5.out.size))
                  have Hcj := Lib.hid hcj
                  obtain ⟨zj, hzj⟩ : ∃ z, zs[j] = z := ⟨_, rfl⟩
                  rw [hzj] at hbd Hcj
                  clear hc hcj hzj
                  have c0 := cell_below Hcj.out Bw.out
                  have e1 := and_one zj
                  obtain ⟨r, hr⟩ : ∃ r, zj % 2 = r := ⟨_, rfl⟩
                  rw [hr] at e1
                  have hr0 : 0 ≤ r := by omega
                  have hr1 : r ≤ 1 := by omega
                  have hj0 : (0 : Int) ≤ (j : Int) := by omega
                  have hj1 : (j : Int) ≤ 10 := by have := Hlen.out; omega
                  have Hbd := Lib.hid hbd
                  have HwN : Hid (∃ wn : Nat, (2 + r + 2 * ((j : Int) % 2)) = (wn : Int) ∧ 2 ≤ wn ∧ wn ≤ 5) := Lib.hid ⟨(2 + r + 2 * ((j : Int) % 2)).toNat, by omega, by omega, by omega⟩
                  have HW := Lib.hid (wipe_stp G5.out.d G5.out.s K.out.1 (2 + r + 2 * ((j : Int) % 2)))
                  clear hr hbd
                  go_wp2_with fail
                  refine HW.out.mono ?_
                  rintro e w20 ⟨rfl, hS⟩
                  obtain ⟨wn, hwn, hw2, hw5⟩ := HwN.out
                  rw [hwn] at hS
                  have X20 := Lib.hid (K.out.2.2.2.2.2.1.step hS)
                  have P20 := Lib.hid (K.out.2.2.2.2.2.2.step hS)
                  obtain ⟨D', hD', r1, r2, r3, r4, r5, r6, r7⟩ := mark_round (.inl ⟨rfl, rfl⟩ : Two2 2 3) Hy.out Hx.out K.out.2.1 K.out.2.2.1 K.out.2.2.2.1 wn ⟨hw2, hw5⟩ zj zj (j : Int) zj
                  have FW := Lib.hid (few_wipe K.out.2.2.2.2.1 (wn : Int))
                  have HR1 := Lib.hid (And.intro hD' (And.intro r1 (And.intro r2 r3)))
                  have HR2 := Lib.hid (And.intro r4 (And.intro r5 (And.intro r6 r7)))
                  have hja : j ≤ 10 := by omega
                  have Hja := Lib.hid hja
                  have Bw1 := Lib.hid (B5.out.trans (hS.own.below.mono B5.out.size))
                  have HAr := Lib.hid (arm_stp G5.out.d hS.own zj Hbd.out.2)
                  clear hS HW HwN hwn hw2 hw5 hD' r1 r2 r3 r4 r5 r6 r7 c0 e1 hr0 hr1 hja
                  have c1 := cell_below Hcj.out Bw1.out
                  go_wp2_with fail
                  refine HAr.out.mono ?_
                  rintro e w21 ⟨rfl, hS⟩
                  have X21 := Lib.hid (X20.out.step hS)
                  have P21 := Lib.hid (P20.out.step hS)
                  have FA := Lib.hid (few_arm FW.out zj)
                  have HO1 := kOpen_any σ τ κ G5.out.c G5.out.u G5.out.d G5.out.k hS.own FA.out (by have := Hja.out; omega) 2 wf2
                  have FO := Lib.hid (few_openK FA.out 2)
                  obtain ⟨ro, hro⟩ : ∃ r, openK ((D.wipe (wn : Int)).2.arm zj) 2 = r := ⟨_, rfl⟩
                  rw [hro] at HO1 FO
                  have hr1 := HR1.out
                  rw [hro] at hr1
                  obtain ⟨⟨om, oe⟩, D1⟩ := ro
                  simp only at HO1 FO hr1
                  clear HR1
                  have HR1 := Lib.hid hr1
                  have HO := Lib.hid HO1
                  unfold MarkV.val at HO
                  clear hS HAr HO1 X20 P20 hro hr1 c1 FA
                  go_wp2_with fail
                  refine HO.out.mono ?_
                  rintro e w22 ⟨rfl, hS⟩
                  have X22 := Lib.hid (X21.out.step hS)
                  have P22 := Lib.hid (P21.out.step hS)
                  have HCr := Lib.hid (crash_stp G5.out.d hS.own FO.out (by have := Hja.out; omega))
                  clear hS HO X21 P21
                  go_wp2_with fail
                  refine HCr.out.mono ?_
                  rintro e w23 ⟨rfl, hS⟩
                  have X23 := Lib.hid (X22.out.step hS)
                  have P23 := Lib.hid (P22.out.step hS)
                  have FC := Lib.hid (few_crash FO.out)
                  have Bw3 := Lib.hid (B5.out.trans (hS.own.below.mono B5.out.size))
                  have HWk := Lib.hid (wake_stp hS.own FC.out (by have := Hja.out; omega) zj (j : Int) zj)
                  have HWd := Lib.hid (wake_stp (hS.on (Below.refl _ _).drew).own FC.out (by have := Hja.out; omega) zj (j : Int) zj)
                  have HS23 := Lib.hid hS
                  clear hS HCr X22 P22
                  have c3 := cell_below Hcj.out Bw3.out
                  go_wp2_with fail
                  go_region_held3 (fun w' => w'.cell? ⟨bb, off + j, none⟩ = some (.int .i64 zj)) (first | exact c3 | exact c4) (first
                    | (go_at_call 36; (first | (with_reducible refine HWk.out.mono ?_) | (with_reducible refine HWd.out.mono ?_)); rintro e w24 ⟨rfl, hS⟩; have hS1 : Stp w5 w23 _ h _ w24 := (show Stp w5 w23 (grow _ w22 w23) h _ w24 from ⟨hS.own, ⟨hS.fr.os, hS.fr.tape, hS.fr.output, hS.fr.size, hS.fr.block⟩⟩); have S24 := Lib.hid hS1; have c4 := cell_below Hcj.out (B5.out.trans (hS1.own.below.mono B5.out.size)); clear hS hS1)
                    | fail)
                  all_goals
                    have X24 := Lib.hid (X23.out.step S24.out)
                    have P24 := Lib.hid (P23.out.step S24.out)
                    have hk := S24.out.own
                    have hf := One.few_wake FC.out zj (j : Int) zj
                    rw [← HR1.out.1] at hk hf
                    have hR := HR1.out.2
                    have hR2 := HR2.out
                    have HO1 := kOpen_any σ τ κ G5.out.c G5.out.u G5.out.d G5.out.k hk hf (by have := Hja.out; omega) 2 wf2
                    have FO2 := few_openK hf 2
                    obtain ⟨ro, hro⟩ : ∃ r, openK D' 2 = r := ⟨_, rfl⟩
                    rw [hro] at HO1 FO2 hR hR2
                    obtain ⟨rm, D2⟩ := ro
                    simp only at HO1 FO2 hR hR2
                    obtain ⟨hs1, hrm, hrx⟩ := hR
                    subst hrm
                    simp only at HO1
                    have FD := Lib.hid FO2
                    have HRx := Lib.hid hrx
                    have HR3 := Lib.hid hR2
                    have HOm := Lib.hid HO1
                    unfold MarkV.val at HOm
                    clear hk hf hR2 HO1 FO2 hro hs1 hrx HR1 HR2 c3 c4 HWk HWd HS23
                    go_wp2_with fail
                    refine HOm.out.mono ?_
                    rintro e w25 ⟨rfl, hS⟩
                    have hbn := below_new w25 (.cells #[.int .i64 y.ver, .int .i64 y.idx, .int .i64 y.term, .int .i64 y.kind, .int .i64 y.void] 26)
                    have K26 := Lib.hid (hS.own.on hbn)
                    have X26 := Lib.hid ((X24.out.step hS).on hbn)
                    have P26 := Lib.hid ((P24.out.step hS).on hbn)
                    have Q26 := Lib.hid (Box.made hS.own 26 #[.int .i64 y.ver, .int .i64 y.idx, .int .i64 y.term, .int .i64 y.kind, .int .i64 y.void])
                    have HO1 := kOpen_any σ τ κ G5.out.c G5.out.u G5.out.d G5.out.k K26.out FD.out (by have := Hja.out; omega) 3 wf3
                    have FO2 := few_openK FD.out 3
                    have hrx := HRx.out
                    have hR3 := HR3.out
                    obtain ⟨ro, hro⟩ : ∃ r, openK D2 3 = r := ⟨_, rfl⟩
                    rw [hro] at HO1 FO2 hrx hR3
                    obtain ⟨rm, D3⟩ := ro
                    simp only at HO1 FO2 hrx hR3
                    subst hrx
                    simp only at HO1
                    have FE := Lib.hid FO2
                    have HR4 := Lib.hid hR3
                    obtain ⟨w26, hw26⟩ : ∃ w26, w25.alloc (.cells #[.int .i64 y.ver, .int .i64 y.idx, .int .i64 y.term, .int .i64 y.kind, .int .i64 y.void] 26) = w26 := ⟨_, rfl⟩
                    rw [hw26] at K26 X26 P26 Q26 HO1
                    have Hw26 := Lib.hid hw26
                    have HOm2 := Lib.hid HO1
                    unfold MarkV.val at HOm2
                    clear hS hbn HO1 FO2 hR3 hro hw26 HOm HRx HR3 X24 P24
                    go_wp2_with fail
                    rw [Hw26.out]
                    refine HOm2.out.mono ?_
                    rintro e w27 ⟨rfl, hS⟩
                    have hbn := below_new w27 (.cells #[.int .i64 x.ver, .int .i64 x.idx, .int .i64 x.term, .int .i64 x.kind, .int .i64 x.void] 26)
                    have K28 := Lib.hid (hS.own.on hbn)
                    have X28 := Lib.hid ((X26.out.step hS).on hbn)
                    have P28 := Lib.hid ((P26.out.step hS).on hbn)
                    have Q28 := Lib.hid ((Q26.out.step hS).on hbn)
                    have R28 := Lib.hid (Box.made hS.own 26 #[.int .i64 x.ver, .int .i64 x.idx, .int .i64 x.term, .int .i64 x.kind, .int .i64 x.void])
                    have HD1 := kDamaged_any σ τ κ G5.out.c G5.out.u G5.out.d G5.out.k K28.out
                    rw [HR4.out.2.2.2] at HD1
                    have HDm := Lib.hid HD1
                    obtain ⟨⟨a0, a1, a2, a3, a4⟩, _⟩ := cells_five X28.out.blk
                    obtain ⟨⟨b0, b1, b2, b3, b4⟩, _⟩ := cells_five P28.out.blk
                    obtain ⟨⟨d0, d1, d2, d3, d4⟩, _⟩ := cells_five Q28.out.blk
                    obtain ⟨⟨e0, e1, e2, e3, e4⟩, _⟩ := cells_five R28.out.blk
                    obtain ⟨w28, hw28⟩ : ∃ w28, w27.alloc (.cells #[.int .i64 x.ver, .int .i64 x.idx, .int .i64 x.term, .int .i64 x.kind, .int .i64 x.void] 26) = w28 := ⟨_, rfl⟩
                    rw [hw28] at K28 X28 P28 Q28 R28 HDm
                    have Hw28 := Lib.hid hw28
                    clear hS hbn HD1 hw28 HOm2 X26 P26 Q26
                    go_wp2_with fail
                    rw [Hw28.out]
                    refine HDm.out.mono ?_
                    rintro e w29 ⟨v, rfl, ho, hb29⟩
                    obtain ⟨Xv, cv, rfl, _, _⟩ := own_slice ho
                    have hjj : j + 1 ≤ zs.length := by omega
                    have KN : Hid (∃ T D, OwnT w5 w29 T h D ∧ Still 6 D ∧ Both D 2 y ∧ Both D 3 x ∧ D.Few (40 + 20 * (j + 1)) ∧ Box w29 T (w.heap.size + 1 + 1) 26 #[.int .i64 x.ver, .int .i64 x.idx, .int .i64 x.term, .int .i64 x.kind, .int .i64 x.void] ∧ Box w29 T gf 26 #[.int .i64 y.ver, .int .i64 y.idx, .int .i64 y.term, .int .i64 y.kind, .int .i64 y.void]) := Lib.hid ⟨_, _, K28.out.on hb29, HR4.out.1, HR4.out.2.1, HR4.out.2.2.1, fewUp FE.out (by omega), X28.out.on hb29, P28.out.on hb29⟩
                    clear a0 a1 a2 a3 a4 b0 b1 b2 b3 b4 d0 d1 d2 d3 d4 e0 e1 e2 e3 e4 ho hb29 HDm K28 X28 P28 Q28 R28
                    rw [show ([] : List Int).length = 0 from rfl]
                    go_wp2_with fail
                    go_roundg (zs.length - (j + 1))
                    case measure => rw [Hgk.out]; omega
                    case rel => exact ⟨j + 1, rfl, hjj, by go_num, KN⟩
                · obtain rfl : j = zs.length := by omega
                  have B16 := Lib.hid (B5.out.trans (K.out.1.below.mono B5.out.size))
                  go_wp2_with fail
                  go_ret
                  exact ⟨rfl, B16.out⟩
          · have hl : (10 : Int) < (zs.length : Int) := by omega
            clear hlen
            go_enter Tryz.func6, Tryz.ntmps6
            go_wp2_with fail
            rw [Hw1.out]
            refine HA.out.mono ?_
            rintro e w2 ⟨rfl, hb2⟩
            have O2 := Lib.hid (HO0.out.below hb2 HO0.out.lt)
            have Y2 := Lib.hid (HY0.out.below hb2 HY0.out.lt)
            have X2 := Lib.hid (HX0.out.below hb2 HX0.out.lt)
            have B2 := Lib.hid (Hb0.out.trans (hb2.mono Hb0.out.size))
            have G2 := Lib.hid (HG.out.below hb2)
            clear hb2 HA HO0 HY0 HX0 HG
            obtain ⟨⟨a0, a1, a2, a3, a4⟩, _⟩ := cells_five O2.out
            go_wp2_with fail
            refine (HR.out _).mono ?_
            rintro e w3 ⟨rfl, hb3⟩
            have O3 := Lib.hid (O2.out.below hb3 O2.out.lt)
            have Y3 := Lib.hid (Y2.out.below hb3 Y2.out.lt)
            have X3 := Lib.hid (X2.out.below hb3 X2.out.lt)
            have B3 := Lib.hid (B2.out.trans (hb3.mono B2.out.size))
            have G3 := Lib.hid (G2.out.below hb3)
            clear hb3 HR O2 Y2 X2 B2 G2 a0 a1 a2 a3 a4
            obtain ⟨⟨a0, a1, a2, a3, a4⟩, _⟩ := cells_five Y3.out
            go_wp2_with fail
            refine (HQ.out _).mono ?_
            rintro e w4 ⟨rfl, hb4⟩
            have O4 := Lib.hid (O3.out.below hb4 O3.out.lt)
            have Y4 := Lib.hid (Y3.out.below hb4 Y3.out.lt)
            have X4 := Lib.hid (X3.out.below hb4 X3.out.lt)
            have B4 := Lib.hid (B3.out.trans (hb4.mono B3.out.size))
            have G4 := Lib.hid (G3.out.below hb4)
            clear hb4 HQ O3 Y3 X3 B3 G3 a0 a1 a2 a3 a4
            obtain ⟨⟨a0, a1, a2, a3, a4⟩, _⟩ := cells_five X4.out
            go_wp2_with fail
            refine (HS.out _).mono ?_
            rintro e w5 ⟨rfl, hb5⟩
            have O5 := Lib.hid (O4.out.below hb5 O4.out.lt)
            have Y5 := Lib.hid (Y4.out.below hb5 Y4.out.lt)
            have X5 := Lib.hid (X4.out.below hb5 X4.out.lt)
            have B5 := Lib.hid (B4.out.trans (hb5.mono B4.out.size))
            have G5 := Lib.hid (G4.out.below hb5)
            clear hb5 HS O4 Y4 X4 B4 G4 a0 a1 a2 a3 a4
            obtain ⟨⟨a0, a1, a2, a3, a4⟩, _⟩ := cells_five O5.out
            obtain ⟨⟨b0, b1, b2, b3, b4⟩, _⟩ := cells_five Y5.out
            go_wp2_with fail
            go_ret
            exact ⟨rfl, B5.out⟩
        · have hle : y.ver ≤ o.ver := by omega
          clear hlt
          go_enter Tryz.func6, Tryz.ntmps6
          go_wp2_with fail
          rw [Hw1.out]
          refine HA.out.mono ?_
          rintro e w2 ⟨rfl, hb2⟩
          have O2 := Lib.hid (HO0.out.below hb2 HO0.out.lt)
          have Y2 := Lib.hid (HY0.out.below hb2 HY0.out.lt)
          have X2 := Lib.hid (HX0.out.below hb2 HX0.out.lt)
          have B2 := Lib.hid (Hb0.out.trans (hb2.mono Hb0.out.size))
          have G2 := Lib.hid (HG.out.below hb2)
          clear hb2 HA HO0 HY0 HX0 HG
          obtain ⟨⟨a0, a1, a2, a3, a4⟩, _⟩ := cells_five O2.out
          go_wp2_with fail
          refine (HR.out _).mono ?_
          rintro e w3 ⟨rfl, hb3⟩
          have O3 := Lib.hid (O2.out.below hb3 O2.out.lt)
          have Y3 := Lib.hid (Y2.out.below hb3 Y2.out.lt)
          have X3 := Lib.hid (X2.out.below hb3 X2.out.lt)
          have B3 := Lib.hid (B2.out.trans (hb3.mono B2.out.size))
          have G3 := Lib.hid (G2.out.below hb3)
          clear hb3 HR O2 Y2 X2 B2 G2 a0 a1 a2 a3 a4
          obtain ⟨⟨a0, a1, a2, a3, a4⟩, _⟩ := cells_five Y3.out
          go_wp2_with fail
          refine (HQ.out _).mono ?_
          rintro e w4 ⟨rfl, hb4⟩
          have O4 := Lib.hid (O3.out.below hb4 O3.out.lt)
          have Y4 := Lib.hid (Y3.out.below hb4 Y3.out.lt)
          have X4 := Lib.hid (X3.out.below hb4 X3.out.lt)
          have B4 := Lib.hid (B3.out.trans (hb4.mono B3.out.size))
          have G4 := Lib.hid (G3.out.below hb4)
          clear hb4 HQ O3 Y3 X3 B3 G3 a0 a1 a2 a3 a4
          obtain ⟨⟨a0, a1, a2, a3, a4⟩, _⟩ := cells_five X4.out
          go_wp2_with fail
          refine (HS.out _).mono ?_
          rintro e w5 ⟨rfl, hb5⟩
          have O5 := Lib.hid (O4.out.below hb5 O4.out.lt)
          have Y5 := Lib.hid (Y4.out.below hb5 Y4.out.lt)
          have X5 := Lib.hid (X4.out.below hb5 X4.out.lt)
          have B5 := Lib.hid (B4.out.trans (hb5.mono B4.out.size))
          have G5 := Lib.hid (G4.out.below hb5)
          clear hb5 HS O4 Y4 X4 B4 G4 a0 a1 a2 a3 a4
          obtain ⟨⟨a0, a1, a2, a3, a4⟩, _⟩ := cells_five O5.out
          obtain ⟨⟨b0, b1, b2, b3, b4⟩, _⟩ := cells_five Y5.out
          go_wp2_with fail
          go_ret
          exact ⟨rfl, B5.out⟩
      · rw [decide_eq_false hx] at HS
        clear hx
        go_enter Tryz.func6, Tryz.ntmps6
        go_wp2_with fail
        rw [Hw1.out]
        refine HA.out.mono ?_
        rintro e w2 ⟨rfl, hb2⟩
        have O2 := Lib.hid (HO0.out.below hb2 HO0.out.lt)
        have Y2 := Lib.hid (HY0.out.below hb2 HY0.out.lt)
        have X2 := Lib.hid (HX0.out.below hb2 HX0.out.lt)
        have B2 := Lib.hid (Hb0.out.trans (hb2.mono Hb0.out.size))
        have G2 := Lib.hid (HG.out.below hb2)
        clear hb2 HA HO0 HY0 HX0 HG
        obtain ⟨⟨a0, a1, a2, a3, a4⟩, _⟩ := cells_five O2.out
        go_wp2_with fail
        refine (HR.out _).mono ?_
        rintro e w3 ⟨rfl, hb3⟩
        have O3 := Lib.hid (O2.out.below hb3 O2.out.lt)
        have Y3 := Lib.hid (Y2.out.below hb3 Y2.out.lt)
        have X3 := Lib.hid (X2.out.below hb3 X2.out.lt)
        have B3 := Lib.hid (B2.out.trans (hb3.mono B2.out.size))
        have G3 := Lib.hid (G2.out.below hb3)
        clear hb3 HR O2 Y2 X2 B2 G2 a0 a1 a2 a3 a4
        obtain ⟨⟨a0, a1, a2, a3, a4⟩, _⟩ := cells_five Y3.out
        go_wp2_with fail
        refine (HQ.out _).mono ?_
        rintro e w4 ⟨rfl, hb4⟩
        have O4 := Lib.hid (O3.out.below hb4 O3.out.lt)
        have Y4 := Lib.hid (Y3.out.below hb4 Y3.out.lt)
        have X4 := Lib.hid (X3.out.below hb4 X3.out.lt)
        have B4 := Lib.hid (B3.out.trans (hb4.mono B3.out.size))
        have G4 := Lib.hid (G3.out.below hb4)
        clear hb4 HQ O3 Y3 X3 B3 G3 a0 a1 a2 a3 a4
        obtain ⟨⟨a0, a1, a2, a3, a4⟩, _⟩ := cells_five X4.out
        go_wp2_with fail
        refine (HS.out _).mono ?_
        rintro e w5 ⟨rfl, hb5⟩
        have O5 := Lib.hid (O4.out.below hb5 O4.out.lt)
        have Y5 := Lib.hid (Y4.out.below hb5 Y4.out.lt)
        have X5 := Lib.hid (X4.out.below hb5 X4.out.lt)
        have B5 := Lib.hid (B4.out.trans (hb5.mono B4.out.size))
        have G5 := Lib.hid (G4.out.below hb5)
        clear hb5 HS O4 Y4 X4 B4 G4 a0 a1 a2 a3 a4
        go_wp2_with fail
        go_ret
        exact ⟨rfl, B5.out⟩
    · rw [decide_eq_false hy] at HQ
      clear hy
      go_enter Tryz.func6, Tryz.ntmps6
      go_wp2_with fail
      rw [Hw1.out]
      refine HA.out.mono ?_
      rintro e w2 ⟨rfl, hb2⟩
      have O2 := Lib.hid (HO0.out.below hb2 HO0.out.lt)
      have Y2 := Lib.hid (HY0.out.below hb2 HY0.out.lt)
      have X2 := Lib.hid (HX0.out.below hb2 HX0.out.lt)
      have B2 := Lib.hid (Hb0.out.trans (hb2.mono Hb0.out.size))
      have G2 := Lib.hid (HG.out.below hb2)
      clear hb2 HA HO0 HY0 HX0 HG
      obtain ⟨⟨a0, a1, a2, a3, a4⟩, _⟩ := cells_five O2.out
      go_wp2_with fail
      refine (HR.out _).mono ?_
      rintro e w3 ⟨rfl, hb3⟩
      have O3 := Lib.hid (O2.out.below hb3 O2.out.lt)
      have Y3 := Lib.hid (Y2.out.below hb3 Y2.out.lt)
      have X3 := Lib.hid (X2.out.below hb3 X2.out.lt)
      have B3 := Lib.hid (B2.out.trans (hb3.mono B2.out.size))
      have G3 := Lib.hid (G2.out.below hb3)
      clear hb3 HR O2 Y2 X2 B2 G2 a0 a1 a2 a3 a4
      obtain ⟨⟨a0, a1, a2, a3, a4⟩, _⟩ := cells_five Y3.out
      go_wp2_with fail
      refine (HQ.out _).mono ?_
      rintro e w4 ⟨rfl, hb4⟩
      have O4 := Lib.hid (O3.out.below hb4 O3.out.lt)
      have Y4 := Lib.hid (Y3.out.below hb4 Y3.out.lt)
      have X4 := Lib.hid (X3.out.below hb4 X3.out.lt)
      have B4 := Lib.hid (B3.out.trans (hb4.mono B3.out.size))
      have G4 := Lib.hid (G3.out.below hb4)
      clear hb4 HQ O3 Y3 X3 B3 G3 a0 a1 a2 a3 a4
      go_wp2_with fail
      go_ret
      exact ⟨rfl, B4.out⟩
  · rw [decide_eq_false ho] at HR
    clear ho
    go_enter Tryz.func6, Tryz.ntmps6
    go_wp2_with fail
    rw [Hw1.out]
    refine HA.out.mono ?_
    rintro e w2 ⟨rfl, hb2⟩
    have O2 := Lib.hid (HO0.out.below hb2 HO0.out.lt)
    have Y2 := Lib.hid (HY0.out.below hb2 HY0.out.lt)
    have X2 := Lib.hid (HX0.out.below hb2 HX0.out.lt)
    have B2 := Lib.hid (Hb0.out.trans (hb2.mono Hb0.out.size))
    have G2 := Lib.hid (HG.out.below hb2)
    clear hb2 HA HO0 HY0 HX0 HG
    obtain ⟨⟨a0, a1, a2, a3, a4⟩, _⟩ := cells_five O2.out
    go_wp2_with fail
    refine (HR.out _).mono ?_
    rintro e w3 ⟨rfl, hb3⟩
    have O3 := Lib.hid (O2.out.below hb3 O2.out.lt)
    have Y3 := Lib.hid (Y2.out.below hb3 Y2.out.lt)
    have X3 := Lib.hid (X2.out.below hb3 X2.out.lt)
    have B3 := Lib.hid (B2.out.trans (hb3.mono B2.out.size))
    have G3 := Lib.hid (G2.out.below hb3)
    clear hb3 HR O2 Y2 X2 B2 G2 a0 a1 a2 a3 a4
    go_wp2_with fail
    go_ret
    exact ⟨rfl, B3.out⟩
end Go.Proofs.YtpaikolnampcfaaGreatDoor
